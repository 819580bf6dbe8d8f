package tree

import (
	"gharry/api"
	"gharry/page"
	"gharry/pool"
)

// Again does what a record says, where the pages have it not yet.
func Again(p *pool.Pool, r api.Rec, lsn int) api.Errno {
	switch r.Kind {
	case api.RecFull, api.RecShape:
		return layAgain(p, r.Images, lsn)
	case api.RecInsert, api.RecDelete, api.RecUpdate:
		return turnAgain(p, r, r.Kind, lsn)
	case api.RecUndo:
		return turnAgain(p, r, r.Act, lsn)
	}
	return api.OK
}

// layAgain refuses ahead of the first page that is set.
func layAgain(p *pool.Pool, images []api.Image, lsn int) api.Errno {
	var lacking []api.Image
	for _, image := range images {
		lacks, err := isLacking(p, image, lsn)
		if err != api.OK {
			return err
		}
		if lacks && len(image.Text) != api.PageBytes {
			return api.ErrForm
		}
		if lacks {
			lacking = append(lacking, image)
		}
	}
	held, err := hold(p, lacking)
	if err != api.OK {
		return err
	}
	defer release(p, held)
	return setAgain(p, lacking, lsn)
}

// setAgain asks each page once more: a record may tell one twice.
func setAgain(p *pool.Pool, images []api.Image, lsn int) api.Errno {
	for _, image := range images {
		lacks, err := isLacking(p, image, lsn)
		if err == api.OK && lacks {
			err = p.Set(image.Page, image.Text, lsn)
		}
		if err != api.OK {
			return err
		}
	}
	return api.OK
}

func isLacking(p *pool.Pool, image api.Image, lsn int) (bool, api.Errno) {
	_, at, err := p.Get(image.Page)
	return err == api.OK && at < lsn, err
}

func turnAgain(p *pool.Pool, r api.Rec, act, lsn int) api.Errno {
	text, at, err := p.Get(r.Page)
	if err != api.OK {
		return err
	}
	if text == "" || at >= lsn {
		return api.OK
	}
	text, err = turn(text, act, api.Cell{Key: r.Key, Val: r.New})
	if err != api.OK {
		return api.ErrDamage
	}
	return p.Set(r.Page, text, lsn)
}

// turn is a page behind an act.
func turn(text string, act int, c api.Cell) (string, api.Errno) {
	switch act {
	case api.RecInsert:
		return page.Insert(text, c)
	case api.RecDelete:
		return page.Delete(text, c.Key)
	case api.RecUpdate:
		return page.Update(text, c)
	}
	return "", api.ErrArg
}

// hold pins pages, so that nothing can err when they are set: those that must be released.
// If there are less frames than pages, none is pinned; each was asked for, at least.
func hold(p *pool.Pool, images []api.Image) ([]api.Image, api.Errno) {
	for i, image := range images {
		err := p.Pin(image.Page)
		if err == api.OK {
			continue
		}
		release(p, images[:i])
		if err == api.ErrFull {
			err = ask(p, images)
		}
		return nil, err
	}
	return images, api.OK
}

func release(p *pool.Pool, images []api.Image) {
	for _, image := range images {
		p.Unpin(image.Page)
	}
}

func ask(p *pool.Pool, images []api.Image) api.Errno {
	for _, image := range images {
		if _, _, err := p.Get(image.Page); err != api.OK {
			return err
		}
	}
	return api.OK
}

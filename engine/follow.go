package engine

import (
	"slices"

	"gharry/api"
	"gharry/base"
	"gharry/rec"
	"gharry/tree"
)

// Take puts whole frames of another log behind its own, lets them last, and does them.
func (g *Engine) Take(s string) api.Errno {
	if err := g.following(); err != api.OK {
		return err
	}
	return g.note(g.take(s))
}

// Cut lets the log end at a place at which a record begins; all pages are made anew.
func (g *Engine) Cut(lsn int) api.Errno {
	if err := g.following(); err != api.OK {
		return err
	}
	if err := g.mayCut(lsn); err != api.OK {
		return err
	}
	return g.note(halfDone(g.cut(lsn)))
}

func (g *Engine) take(s string) api.Errno {
	// With a record of a page that is not here the log could never be done again.
	if len(s) <= g.log.Left() && slices.ContainsFunc(pagesOf(s), g.lacks) {
		return api.ErrRange
	}
	at, err := g.log.Put(s)
	if err != api.OK {
		return err
	}
	return g.do(at)
}

// pagesOf are the pages that the frames of a text turn; none, if it is not whole frames
// alone, which no log takes.
func pagesOf(s string) []int {
	var pages []int
	for at := 0; at < len(s); {
		r, many, err := rec.Open(s, at)
		if err != api.OK {
			return nil
		}
		pages = append(pages, rec.Pages(r)...)
		at += many
	}
	return pages
}

func (g *Engine) lacks(page int) bool { return page >= g.pool.Pages() }

// do does the log's records from a place on; they last ahead of that.
func (g *Engine) do(at int) api.Errno {
	if err := g.log.Flush(); err != api.OK {
		return err
	}
	for at < g.log.End() {
		r, next, err := g.log.Read(at)
		if err != api.OK {
			return err
		}
		if err := tree.Again(g.pool, r, at); err != api.OK {
			return err
		}
		g.past.Note(r, at)
		at = next
	}
	return api.OK
}

func (g *Engine) mayCut(lsn int) api.Errno {
	if lsn < 1 || lsn > g.log.End() {
		return api.ErrRange
	}
	if !g.log.Bound(lsn) {
		return api.ErrForm
	}
	if g.base.Gen >= maxGen || g.base.Boot >= bootEnd-2 {
		return api.ErrFull
	}
	return api.OK
}

// cut forgets the pages first: none of a record that goes may count behind a loss of power.
func (g *Engine) cut(lsn int) api.Errno {
	err := g.save(func(b *base.Base) {
		b.Gen++
		b.Boot++
		b.Check, b.Redo = 0, 1
	})
	if err != api.OK {
		return err
	}
	if err := g.log.Cut(lsn, g.base.Boot); err != api.OK {
		return err
	}
	return g.makeAnew()
}

package engine

import (
	"math"

	"gharry/api"
	"gharry/past"
)

// Read is a key's value behind all that was committed, and nothing else.
func (g *Engine) Read(key string) (string, bool, api.Errno) {
	if err := g.refusal(); err != api.OK {
		return "", false, err
	}
	if key == "" || len(key) > api.MaxKey {
		return "", false, api.ErrKey
	}
	val, is, err := g.read(key)
	return val, is, g.note(err)
}

// List is at most so many cells of a range (no end, if that is empty), behind all that was committed, and nothing else.
func (g *Engine) List(lo, hi string, most int) ([]api.Cell, api.Errno) {
	if err := g.refusal(); err != api.OK {
		return nil, err
	}
	if len(lo) > api.MaxKey || len(hi) > api.MaxKey {
		return nil, api.ErrKey
	}
	if hi != "" && hi < lo || most < 0 {
		return nil, api.ErrRange
	}
	cells, err := g.list(lo, hi, most)
	return cells, g.note(err)
}

func (g *Engine) read(key string) (string, bool, api.Errno) {
	before, err := g.before()
	if err != api.OK {
		return "", false, err
	}
	if was, turned := before.Get(key); turned {
		return was.Val, was.Is, api.OK
	}
	val, is, err := g.tree.Get(key)
	if err == api.ErrNone { // no tree yet
		err = api.OK
	}
	return val, is, err
}

func (g *Engine) list(lo, hi string, most int) ([]api.Cell, api.Errno) {
	before, err := g.before()
	if err != api.OK {
		return nil, err
	}
	// Each key that was turned may take the place of one that is to be told.
	more := min(before.Acts(), math.MaxInt-most)
	cells, err := g.tree.Scan(lo, hi, most+more)
	if err != api.OK && err != api.ErrNone {
		return nil, err
	}
	return before.View(cells, lo, hi, most), api.OK
}

// before is what was there ahead of those who go on. Of one who leads the transactions
// know their last records, which is enough to tell it.
func (g *Engine) before() (*past.Past, api.Errno) {
	if !g.Leads() {
		return g.past, api.OK
	}
	return past.Load(g.log, g.txns.Table())
}

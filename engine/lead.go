package engine

import (
	"gharry/api"
	"gharry/base"
	"gharry/redo"
	"gharry/txn"
)

const (
	maxEpoch = 1<<31 - 1
	// Numbers of transactions are never told twice: each start of each node has its own.
	bootShare = 4
	startBits = 20
)

// Lead lets the node lead: what went on is taken back; a greater epoch than the log's last one begins.
func (g *Engine) Lead(epoch int) api.Errno {
	if err := g.refusal(); err != api.OK {
		return err
	}
	if err := g.mayLead(epoch); err != api.OK {
		return err
	}
	return g.note(halfDone(g.lead(epoch)))
}

// Check lets a restart begin later: of who leads here, of who follows at the last check of its log, behind which all pages are written.
func (g *Engine) Check() api.Errno {
	if err := g.refusal(); err != api.OK {
		return err
	}
	if !g.Leads() {
		return g.note(g.checkAsLed())
	}
	if !g.hasRoom(Spare, g.txns.Acts()) {
		return api.ErrFull
	}
	return g.note(g.check(g.txns))
}

// Begin begins a transaction.
func (g *Engine) Begin() (int, api.Errno) {
	if err := g.leading(); err != api.OK {
		return 0, err
	}
	id, err := g.txns.Begin()
	return id, g.note(err)
}

// Get is a key's value in a transaction.
func (g *Engine) Get(id int, key string) (string, bool, api.Errno) {
	if err := g.leading(); err != api.OK {
		return "", false, err
	}
	val, is, err := g.txns.Get(id, key)
	return val, is, g.note(err)
}

// Put gives a key a value in a transaction: whether it had one.
func (g *Engine) Put(id int, key, val string) (bool, api.Errno) {
	if err := g.leading(); err != api.OK {
		return false, err
	}
	had, err := g.txns.Put(id, key, val)
	return had, g.note(err)
}

// Delete takes a key away in a transaction: whether it was there.
func (g *Engine) Delete(id int, key string) (bool, api.Errno) {
	if err := g.leading(); err != api.OK {
		return false, err
	}
	had, err := g.txns.Delete(id, key)
	return had, g.note(err)
}

// Scan is cells of a range in a transaction.
func (g *Engine) Scan(id int, lo, hi string, most int) ([]api.Cell, api.Errno) {
	if err := g.leading(); err != api.OK {
		return nil, err
	}
	cells, err := g.txns.Scan(id, lo, hi, most)
	return cells, g.note(err)
}

// Save remembers how far a transaction is: which of its saves that is.
func (g *Engine) Save(id int) (int, api.Errno) {
	if err := g.leading(); err != api.OK {
		return 0, err
	}
	which, err := g.txns.Save(id)
	return which, g.note(err)
}

// Back takes back what a transaction did behind one of its saves.
func (g *Engine) Back(id, save int) api.Errno {
	if err := g.leading(); err != api.OK {
		return err
	}
	return g.note(g.txns.Back(id, save))
}

// Commit lets a transaction last: the place of its record.
func (g *Engine) Commit(id int) (int, api.Errno) {
	if err := g.leading(); err != api.OK {
		return 0, err
	}
	at, err := g.txns.Commit(id)
	return at, g.note(err)
}

// Abort takes a transaction back.
func (g *Engine) Abort(id int) api.Errno {
	if err := g.leading(); err != api.OK {
		return err
	}
	return g.note(g.txns.Abort(id))
}

// Going are the transactions that go on.
func (g *Engine) Going() []int {
	if !g.Leads() {
		return nil
	}
	return g.txns.Going()
}

// hasRoom tells whether so many bytes are left, beside what takes acts back.
func (g *Engine) hasRoom(bytes, acts int) bool {
	return g.log.Left() >= bytes+txn.Cost*acts
}

func (g *Engine) mayLead(epoch int) api.Errno {
	if g.Leads() {
		return api.ErrThere
	}
	if epoch < 1 || epoch > maxEpoch {
		return api.ErrArg
	}
	last, node := redo.Leader(g.log)
	if epoch < last || epoch == last && node != g.base.Node || epoch < g.base.Seen {
		return api.ErrEpoch
	}
	if !g.hasRoom(Room, g.past.Acts()) {
		return api.ErrFull
	}
	return api.OK
}

func (g *Engine) lead(epoch int) api.Errno {
	if err := g.enter(epoch); err != api.OK {
		return err
	}
	if err := g.plant(); err != api.OK {
		return err
	}
	m := txn.New(g.tree, g.log, (bootShare*g.base.Boot+g.base.Node)<<startBits)
	if err := m.Lose(g.past.Table()); err != api.OK {
		return err
	}
	if err := g.pool.FlushAll(); err != api.OK {
		return err
	}
	if err := g.check(m); err != api.OK {
		return err
	}
	g.past, g.txns = nil, m
	return api.OK
}

// enter lets an epoch be the base's, and the log's last one.
func (g *Engine) enter(epoch int) api.Errno {
	if err := g.save(func(b *base.Base) { b.Seen, b.Joined = epoch, epoch }); err != api.OK {
		return err
	}
	if last, _ := redo.Leader(g.log); last >= epoch {
		return api.OK
	}
	_, err := g.log.Append(api.Rec{Kind: api.RecEpoch, Epoch: epoch, Node: g.base.Node})
	return err
}

// plant makes a tree, if there is none.
func (g *Engine) plant() api.Errno {
	err := g.tree.Create()
	if err == api.ErrThere {
		return api.OK
	}
	return err
}

// check lets a restart begin at a new record, as far as the pages are written.
func (g *Engine) check(m *txn.Manager) api.Errno {
	at, err := g.log.Append(api.Rec{Kind: api.RecCheck, Table: m.Table()})
	if err != api.OK {
		return err
	}
	if err := g.log.Flush(); err != api.OK {
		return err
	}
	if err := g.moveTo(at, min(at, g.tree.Redo())); err != api.OK {
		return err
	}
	g.tree.Mark(at)
	return api.OK
}

// checkAsLed lets a restart begin at the last check of who led, if that is a later one.
func (g *Engine) checkAsLed() api.Errno {
	at := redo.Check(g.log)
	if at <= g.base.Check {
		return api.OK
	}
	if err := g.pool.FlushAll(); err != api.OK {
		return err
	}
	return g.moveTo(at, at)
}

// moveTo saves where a restart begins to look who goes on, and what lacks in the pages.
func (g *Engine) moveTo(check, from int) api.Errno {
	return g.save(func(b *base.Base) { b.Check, b.Redo = check, from })
}

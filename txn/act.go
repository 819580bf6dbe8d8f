package txn

import (
	"cmp"
	"errors"
	"slices"

	"gharry/api"
	"gharry/lock"
	"gharry/page"
	"gharry/rec"
)

func mayBeKey(key string) bool { return key != "" && len(key) <= api.MaxKey }

func (m *Manager) get(x *transaction, key string) (string, bool, api.Errno) {
	if !mayBeKey(key) {
		return "", false, api.ErrKey
	}
	if m.locks.Key(x.id, lock.Share, key) != api.OK {
		return "", false, api.ErrLocked
	}
	return m.tree.Get(key)
}

func (m *Manager) scan(x *transaction, lo, hi string, most int) ([]api.Cell, api.Errno) {
	if len(lo) > api.MaxKey || len(hi) > api.MaxKey {
		return nil, api.ErrKey
	}
	if hi != "" && hi < lo || most < 0 {
		return nil, api.ErrRange
	}
	if m.locks.Range(x.id, lock.Share, lo, hi) != api.OK {
		return nil, api.ErrLocked
	}
	return m.tree.Scan(lo, hi, most)
}

func (m *Manager) put(x *transaction, key, val string) (bool, api.Errno) {
	if !mayBeKey(key) {
		return false, api.ErrKey
	}
	if len(val) > api.MaxValue {
		return false, api.ErrValue
	}
	old, had, err := m.own(x, key)
	if err != api.OK {
		return false, err
	}
	act := api.RecInsert
	if had {
		act = api.RecUpdate
	}
	r := api.Rec{Kind: act, Key: key, Old: old, New: val}
	if err := m.do(x, r, act, api.Cell{Key: key, Val: val}); err != api.OK {
		return false, err
	}
	return had, api.OK
}

func (m *Manager) remove(x *transaction, key string) (bool, api.Errno) {
	if !mayBeKey(key) {
		return false, api.ErrKey
	}
	old, had, err := m.own(x, key)
	if err != api.OK || !had {
		return false, err
	}
	r := api.Rec{Kind: api.RecDelete, Key: key, Old: old}
	if err := m.do(x, r, api.RecDelete, api.Cell{Key: key, Val: old}); err != api.OK {
		return false, err
	}
	return true, api.OK
}

// own is what a key has that is owned now, and on which an act has room.
func (m *Manager) own(x *transaction, key string) (string, bool, api.Errno) {
	if m.locks.Key(x.id, lock.Own, key) != api.OK {
		return "", false, api.ErrLocked
	}
	if err := m.room(key); err != api.OK {
		return "", false, err
	}
	return m.tree.Get(key)
}

// room tells whether an act has room: it, what takes it back, and what takes back all
// that others did.
func (m *Manager) room(key string) api.Errno {
	many := 2 + m.Acts()
	if m.log.Left() < Margin+Cost*many {
		return api.ErrFull
	}
	if m.tree.Free() >= Pages*many {
		return api.OK
	}
	// A tree that can't be read for want of power tells no free page, either.
	if _, err := m.tree.Leaf(key); errors.Is(err, api.ErrDown) {
		return err
	}
	return api.ErrFull
}

// do does an act by a record, of which all is told but the transaction and the page. That
// it can't be framed is told ahead of the first change.
func (m *Manager) do(x *transaction, r api.Rec, act int, c api.Cell) api.Errno {
	r.Txn, r.Prev = x.id, x.last
	if _, err := rec.Frame(r); err != api.OK {
		return err
	}
	leaf, err := m.leaf(act, c)
	if err != api.OK {
		return err
	}
	if err := m.tree.Cover(leaf); err != api.OK {
		return err
	}
	r.Page = leaf
	at, err := m.log.Append(r)
	if err != api.OK {
		return err
	}
	x.did(r.Kind, at)
	if err := m.tree.Change(leaf, at, act, c); err != api.OK {
		return halfDone(err)
	}
	if act == api.RecDelete {
		return m.tree.Tidy(c.Key)
	}
	return api.OK
}

// leaf is the leaf of a cell's key, with room for it, if it is to be laid there.
func (m *Manager) leaf(act int, c api.Cell) (int, api.Errno) {
	if act == api.RecDelete {
		return m.tree.Leaf(c.Key)
	}
	return m.tree.Place(c.Key, page.Need(c))
}

// did notes a transaction's record.
func (x *transaction) did(kind, at int) {
	x.last = at
	if kind == api.RecUndo {
		x.acts--
	} else {
		x.acts++
	}
}

// takeBack takes a transaction back down to one of its records; 0: all of it.
func (m *Manager) takeBack(x *transaction, down int) api.Errno {
	trail, err := m.trail(x, down)
	if err != api.OK {
		return err
	}
	for _, r := range trail {
		if err := m.undo(x, r); err != api.OK {
			return err
		}
	}
	return api.OK
}

// trail is the records of a transaction that are to be taken back, from its last one on
// down to another one.
func (m *Manager) trail(x *transaction, down int) ([]api.Rec, api.Errno) {
	var trail []api.Rec
	for at := x.last; at != down; {
		r, next, err := m.step(x, at)
		if err != api.OK {
			return nil, err
		}
		if r.Kind != api.RecUndo {
			trail = append(trail, r)
		}
		at = next
	}
	return trail, api.OK
}

// step is a record of a transaction, and the one that is to be taken back behind it. As
// that is lesser, every trail ends.
func (m *Manager) step(x *transaction, at int) (api.Rec, int, api.Errno) {
	r, _, err := m.log.Read(at)
	if err != api.OK || !m.log.Bound(at) || r.Txn != x.id {
		return api.Rec{}, 0, api.ErrDamage
	}
	next := r.Prev
	if r.Kind == api.RecUndo {
		next = r.Next
	} else if _, _, is := rec.Back(r); !is {
		return api.Rec{}, 0, api.ErrDamage
	}
	if next >= at {
		return api.Rec{}, 0, api.ErrDamage
	}
	return r, next, api.OK
}

// undo takes a record back. A tree that has not what the record left is not turned: what
// the log would say of it could not be done again.
func (m *Manager) undo(x *transaction, r api.Rec) api.Errno {
	val, is, err := m.tree.Get(r.Key)
	if err != api.OK {
		return err
	}
	if val != r.New || is != (r.Kind != api.RecDelete) {
		return api.ErrDamage
	}
	act, c, _ := rec.Back(r)
	u := api.Rec{Kind: api.RecUndo, Act: act, Next: r.Prev, Key: r.Key, Old: r.New, New: r.Old}
	return m.do(x, u, act, c)
}

func (m *Manager) commit(x *transaction) (int, api.Errno) {
	if x.last == 0 {
		return 0, api.OK
	}
	at, err := m.log.Append(api.Rec{Kind: api.RecCommit, Txn: x.id, Prev: x.last})
	if err != api.OK {
		return 0, err
	}
	return at, m.log.Flush()
}

// abort takes a transaction back; one that has no record leaves none.
func (m *Manager) abort(x *transaction) api.Errno {
	if x.last == 0 {
		m.leave(x.id)
		return api.OK
	}
	return m.lose(x)
}

// lose takes a transaction back, and ends it by a record.
func (m *Manager) lose(x *transaction) api.Errno {
	if err := m.takeBack(x, 0); err != api.OK {
		return halfDone(err)
	}
	if _, err := m.log.Append(end(x)); err != api.OK {
		return halfDone(err)
	}
	m.leave(x.id)
	return api.OK
}

func end(x *transaction) api.Rec {
	return api.Rec{Kind: api.RecEnd, Txn: x.id, Prev: x.last}
}

// loseAll loses transactions, and lets that last. All are looked at ahead of the first
// change.
func (m *Manager) loseAll(l []api.Active) api.Errno {
	var lost []*transaction
	for _, a := range l {
		x, err := m.told(a)
		if err != api.OK {
			return err
		}
		lost = slices.DeleteFunc(lost, func(ahead *transaction) bool { return ahead.id == a.Txn })
		lost = append(lost, x)
	}
	slices.SortStableFunc(lost, func(a, b *transaction) int { return cmp.Compare(b.last, a.last) })
	for _, x := range lost {
		if err := m.lose(x); err != api.OK {
			return err
		}
	}
	return halfDone(m.log.Flush())
}

// told is a transaction of which its number and its last record are told. Of one that goes
// on here that must be its own.
func (m *Manager) told(a api.Active) (*transaction, api.Errno) {
	x, err := m.find(a.Txn)
	if err != api.OK {
		x = &transaction{id: a.Txn, last: a.Last}
	}
	if x.last != a.Last {
		return nil, api.ErrDamage
	}
	if _, err := m.trail(x, 0); err != api.OK {
		return nil, err
	}
	_, err = rec.Frame(end(x))
	return x, err
}

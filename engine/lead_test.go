package engine_test

import (
	"math"
	"slices"
	"strconv"
	"testing"

	"gharry/api"
	"gharry/base"
	"gharry/engine"
	"gharry/rec"
	"gharry/txn"
)

// Promise 17.3.

// The first one makes a tree, and checks.
func TestLead(t *testing.T) {
	for _, c := range []struct{ node, seen, epoch int }{
		{0, 0, 1}, {1, 1, 1}, {1, 3, 7}, {0, 1<<31 - 1, 1<<31 - 1},
	} {
		b := newBench(t, roomy, c.node, c.seen, 64)
		wantErr(t, "Lead", b.g.Lead(c.epoch), api.OK)
		if !b.g.Leads() || !b.g.Up() {
			t.Errorf("Lead: leads %v, up %v", b.g.Leads(), b.g.Up())
		}
		b.wantKinds("Lead", 1, api.RecEpoch, api.RecShape, api.RecCheck)
		records, places := b.g.Log().Records()
		if r := records[0]; r.Epoch != c.epoch || r.Node != c.node || len(records[2].Table) > 0 {
			t.Errorf("Lead: %+v", records)
		}
		if b.g.Log().Durable() != b.g.Log().End() || b.lacking() != 0 {
			t.Errorf("Lead: the log lasts to %d of %d, %d pages lack something", b.g.Log().Durable(), b.g.Log().End(), b.lacking())
		}
		b.wantBase("Lead", base.Base{Node: c.node, Boot: 1, Gen: 1, Check: places[2], Redo: places[2], Seen: c.epoch, Joined: c.epoch})
		b.wantCells("Lead")
	}
}

// Numbers of transactions are above those of each other start, of both nodes.
func TestNumbersOfTransactions(t *testing.T) {
	for node := range 2 {
		b := newBench(t, roomy, node, 0, 8)
		for boot := 1; boot < 4; boot++ {
			b.lead(boot)
			want := (4*boot+node)<<20 + 1
			if id := b.begin(); id != want || b.begin() != want+1 {
				t.Errorf("Begin: %d, want %d", id, want)
			}
			b.start()
		}
	}
	d := newDisk(t, 1201)
	ok(t, "base: Save", base.Save(d, base.Base{Node: 1, Boot: 1<<24 - 2, Gen: 1, Redo: 1}))
	b := &bench{t: t, frames: 8, d: d}
	b.start()
	b.lead(1)
	id := b.begin()
	if want := (4*(1<<24-1)+1)<<20 + 1; id != want {
		t.Errorf("Begin: %d, want %d", id, want)
	}
	b.put(id, "a", "1")
	b.commit(id)
	b.wantCells("the greatest number", cells("a", "1")...)
}

func TestLeadRefused(t *testing.T) {
	// The log's last epoch is 5, of the node 1.
	by := newBench(t, roomy, 1, 5, 64)
	by.lead(5)
	by.committed("a", "1")
	follower := func(node, seen int) *bench {
		b := newBench(t, roomy, node, 0, 64)
		b.takeFrom(by)
		b.ok("See", b.g.See(seen))
		return b
	}
	for _, c := range []struct {
		what              string
		node, seen, epoch int
		want              api.Errno
	}{
		{"0", 1, 0, 0, api.ErrArg},
		{"-1", 1, 0, -1, api.ErrArg},
		{"the least", 1, 0, math.MinInt, api.ErrArg},
		{"2^31", 1, 0, 1 << 31, api.ErrArg},
		{"2^31, and much was seen", 1, 1<<32 - 1, 1 << 31, api.ErrArg},
		{"the greatest", 1, 0, math.MaxInt, api.ErrArg},
		{"0, and much was seen", 1, 9, 0, api.ErrArg},
		{"below the last one", 1, 0, 4, api.ErrEpoch},
		{"below the last one of another", 0, 0, 4, api.ErrEpoch},
		{"the last one of another", 0, 0, 5, api.ErrEpoch},
		{"the last one", 1, 0, 5, api.OK},
		{"the last one that was seen", 1, 5, 5, api.OK},
		{"the last one, and a later one was seen", 1, 6, 5, api.ErrEpoch},
		{"above the last one", 0, 0, 6, api.OK},
		{"above the last one, below what was seen", 0, 7, 6, api.ErrEpoch},
		{"what was seen", 0, 7, 7, api.OK},
		{"above what was seen", 1, 7, 9, api.OK},
		{"the greatest one", 0, 7, 1<<31 - 1, api.OK},
	} {
		b := follower(c.node, c.seen)
		if c.want == api.OK {
			wantErr(t, c.what, b.g.Lead(c.epoch), api.OK)
			b.wantCells(c.what, cells("a", "1")...)
			continue
		}
		b.wantSame(c.what, func() { wantErr(t, c.what, b.g.Lead(c.epoch), c.want) })
	}
	by.wantSame("Lead of who leads", func() {
		for _, epoch := range []int{6, 5, 4, 0, math.MaxInt} {
			wantErr(t, "Lead of who leads", by.g.Lead(epoch), api.ErrThere)
		}
	})
}

// An epoch has room beside what is to be taken back: 4200 bytes of each key.
func TestLeadHasRoom(t *testing.T) {
	for keys := range 3 {
		for _, turns := range []int{1, 2} { // of a key that was turned twice but one counts
			by := led(t)
			id := by.begin()
			for i := range keys * turns {
				by.put(id, strconv.Itoa(i%keys), strconv.Itoa(i))
			}
			by.ok("wal: Flush", by.g.Log().Flush())
			room := engine.Room + txn.Cost*keys
			for _, left := range []int{room - 1, room} {
				b := started(t, by.d, 64)
				b.fill(left)
				if left == room {
					wantErr(t, "Lead with just room", b.g.Lead(2), api.OK)
					b.wantCells("Lead with just room")
					continue
				}
				b.wantSame("Lead", func() {
					wantErr(t, "Lead", b.g.Lead(1), api.ErrFull)
					wantErr(t, "Lead", b.g.Lead(2), api.ErrFull)
				})
				wantErr(t, "Lead of none", b.g.Lead(0), api.ErrArg)
			}
		}
	}
}

// Room for an epoch is enough for it, a tree, and a check; without a tree it is asked, too.
func TestLeadWithJustRoom(t *testing.T) {
	b := newBench(t, 1201, 0, 0, 8)
	b.fill(engine.Room - 1)
	b.wantSame("Lead", func() { wantErr(t, "Lead", b.g.Lead(1), api.ErrFull) })
	b = newBench(t, 1201, 0, 0, 8)
	b.fill(engine.Room)
	wantErr(t, "Lead", b.g.Lead(1), api.OK)
	b.wantCells("Lead")
	small := newBench(t, 35, 0, 0, 8) // a log of 17 sectors has 986 bytes
	small.wantSame("Lead", func() { wantErr(t, "Lead", small.g.Lead(1), api.ErrFull) })
	small = newBench(t, 37, 0, 0, 8)
	wantErr(t, "Lead", small.g.Lead(1), api.OK)
	small.wantCells("Lead")
}

// The same epoch once more: no record of it, and no tree, is made anew.
func TestLeadOnceMore(t *testing.T) {
	b := led(t)
	b.committed("a", "1")
	b.start()
	end := b.g.Log().End()
	b.lead(1)
	b.wantKinds("Lead", end, api.RecCheck)
	b.wantBase("Lead", base.Base{Boot: 2, Gen: 1, Check: end, Redo: end, Seen: 1, Joined: 1})
	if b.lacking() != 0 {
		t.Errorf("Lead: %d pages lack something", b.lacking())
	}
	b.start()
	end = b.g.Log().End()
	b.lead(2)
	b.wantKinds("Lead", end, api.RecEpoch, api.RecCheck)
	b.wantCells("Lead", cells("a", "1")...)
}

// What was seen, and joined, is the epoch then, whatever it was.
func TestLeadJoins(t *testing.T) {
	b := newBench(t, roomy, 0, 0, 8)
	b.ok("Join", b.g.Join(9))
	b.ok("See", b.g.See(2))
	b.lead(3)
	if got := b.g.Base(); got.Seen != 3 || got.Joined != 3 {
		t.Errorf("Lead: %+v", got)
	}
	b.start()
	if got := b.g.Base(); got.Seen != 3 || got.Joined != 3 {
		t.Errorf("Start: %+v", got)
	}
}

// Who went on is taken back, the last record first, and is ended; all that lasts.
func TestLeadTakesBack(t *testing.T) {
	by := led(t)
	by.committed("a", "1", "b", "2", "c", "3")
	one, two := by.begin(), by.begin()
	by.put(two, "c", "open")
	by.put(one, "a", "open")
	by.remove(two, "b")
	by.put(one, "z", "open")
	by.put(one, "a", "again")
	by.ok("wal: Flush", by.g.Log().Flush())
	want := cells("a", "1", "b", "2", "c", "3")
	for what, b := range map[string]*bench{"starts": started(t, by.d, 64), "follows": followed(t, by)} {
		b.t = t
		end := b.g.Log().End()
		b.wantCells(what, want...)
		b.lead(2)
		b.wantCells(what, want...)
		var undone []api.Rec
		records, places := b.g.Log().Records()
		for i, r := range records {
			if places[i] >= end && r.Txn != 0 {
				undone = append(undone, api.Rec{Kind: r.Kind, Txn: r.Txn, Key: r.Key, New: r.New})
			}
		}
		wants := []api.Rec{
			{Kind: api.RecUndo, Txn: one, Key: "a", New: "open"}, {Kind: api.RecUndo, Txn: one, Key: "z"},
			{Kind: api.RecUndo, Txn: one, Key: "a", New: "1"}, {Kind: api.RecEnd, Txn: one},
			{Kind: api.RecUndo, Txn: two, Key: "b", New: "2"}, {Kind: api.RecUndo, Txn: two, Key: "c", New: "3"}, {Kind: api.RecEnd, Txn: two},
		}
		if !slices.EqualFunc(undone, wants, func(a, b api.Rec) bool {
			return rec.Clean(a).Txn == b.Txn && a.Kind == b.Kind && a.Key == b.Key && a.New == b.New
		}) {
			t.Errorf("%s: %+v", what, undone)
		}
		last := records[len(records)-1]
		if last.Kind != api.RecCheck || len(last.Table) > 0 || b.g.Base().Check != places[len(places)-1] || b.g.Base().Redo != b.g.Base().Check {
			t.Errorf("%s: ends by %+v, base %+v", what, last, b.g.Base())
		}
		if b.lacking() != 0 || b.g.Log().Durable() != b.g.Log().End() || len(b.g.Going()) > 0 {
			t.Errorf("%s: %d pages lack something, %v go on", what, b.lacking(), b.g.Going())
		}
		wantCovered(t, what, b.g.Log())
		b.committed("z", "9")
		b.crash(0)
		b.start()
		b.wantCells(what, append(want, cells("z", "9")...)...)
	}
}

// The first page that is turned behind a lead stands in the log as a whole first, though
// it did so while others were taken back.
func TestLeadMarks(t *testing.T) {
	by := led(t)
	by.committed("a", "1")
	by.open()
	by.ok("wal: Flush", by.g.Log().Flush())
	b := started(t, by.d, 64)
	b.lead(1)
	end := b.g.Log().End()
	b.put(b.begin(), "a", "2")
	b.wantKinds("a put behind a lead", end, api.RecFull, api.RecUpdate)
	b.ok("Flush", b.g.Flush())
	wantCovered(t, "Lead", b.g.Log())
}

// A log whose transactions can't be taken back is damage, and the node is dead.
func TestLeadOfDamage(t *testing.T) {
	b := newBench(t, roomy, 1, 0, 64)
	b.take(rootOf(t), insert(5, 1, "a", "1"), commit(5))
	at := b.g.Log().End()
	b.take(insert(6, 1, "b", "1"), end(7))
	b.take(api.Rec{Kind: api.RecUndo, Act: api.RecDelete, Txn: 6, Page: 1, Prev: at, Next: at, Key: "b", Old: "1"})
	wantErr(t, "Lead", b.g.Lead(1), api.ErrDamage)
	if b.g.Leads() {
		t.Error("leads")
	}
	b.wantDead("Lead")
	b = newBench(t, roomy, 1, 0, 64)
	b.take(rootOf(t), insert(5, 1, "a", "1"), insert(6, 1, "b", "1"), commit(5))
	b.lead(1)
	b.wantCells("Lead", cells("a", "1")...)
}

// often is a node that follows; somebody goes on who turned one key so often that there may
// be no room to take all back, though there is for an epoch.
func often(t *testing.T) *bench {
	t.Helper()
	b := newBench(t, 1201, 1, 0, 64)
	b.take(rootOf(t))
	prev := 0
	for i := range 90 {
		r := behind(prev, insert(5, 1, text('k', 16), text('v', 32)))
		if i%2 == 1 {
			r = behind(prev, api.Rec{Kind: api.RecDelete, Txn: 5, Page: 1, Key: text('k', 16), Old: text('v', 32)})
		}
		prev = b.g.Log().End()
		b.take(r)
	}
	return b
}

// Nothing can go on where there is no room to take all back, or none for the check behind it.
func TestLeadWithoutRoom(t *testing.T) {
	b := often(t)
	end := b.g.Log().End()
	b.lead(1)
	needs := b.g.Base().Check - end
	if needs < engine.Room+txn.Cost {
		t.Fatalf("%d bytes are needed", needs)
	}
	check := len(framed(api.Rec{Kind: api.RecCheck}))
	for _, left := range []int{engine.Room + txn.Cost, needs - 1, needs, needs + check - 1, needs + check} {
		b := often(t)
		b.fill(left)
		if left == needs+check {
			wantErr(t, "Lead with just room", b.g.Lead(1), api.OK)
			b.wantCells("Lead with just room")
			continue
		}
		wantErr(t, "Lead", b.g.Lead(1), api.ErrDown)
		if b.g.Leads() {
			t.Error("leads")
		}
		b.wantDead("Lead")
		b.start()
		b.wantCells("Start")
	}
}

// Power that goes at any act of a lead: the next start and lead have what was committed.
func TestLeadWithoutPower(t *testing.T) {
	by := led(t)
	by.committed("a", "1", "b", "2")
	by.open()
	by.ok("wal: Flush", by.g.Log().Flush())
	want := cells("a", "1", "b", "2")
	for _, keep := range []uint64{0, 1, 2, math.MaxUint64} {
		for acts, led := 0, false; !led; acts++ {
			b := started(t, by.d, 2)
			b.ok("Arm", b.d.Arm(acts, keep))
			err := b.g.Lead(2)
			if led = err == api.OK; led {
				if acts < 10 {
					t.Errorf("Lead: %d acts", acts)
				}
				continue
			}
			wantErr(t, "Lead", err, api.ErrDown)
			if b.g.Leads() || b.g.Up() {
				t.Error("leads, or up")
			}
			b.start()
			b.wantCells("Start", want...)
			b.lead(2)
			b.wantCells("Lead", want...)
			b.start()
			b.wantCells("Start behind it", want...)
		}
	}
}

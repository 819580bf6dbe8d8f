package engine_test

import (
	"math"
	"slices"
	"strconv"
	"testing"

	"gharry/api"
	"gharry/base"
	"gharry/engine"
	"gharry/txn"
)

func TestConstants(t *testing.T) {
	if engine.Room != 1000 || engine.Spare != 3000 {
		t.Errorf("Room %d, Spare %d", engine.Room, engine.Spare)
	}
}

// Promise 17.2.

func TestUp(t *testing.T) {
	for _, leads := range []bool{false, true} {
		b := newBench(t, roomy, 0, 0, 64)
		if leads {
			b.lead(1)
			b.committed("a", "1")
		}
		if !b.g.Up() || b.g.Leads() != leads {
			t.Errorf("up %v, leads %v", b.g.Up(), b.g.Leads())
		}
		before := b.g.Base()
		b.crash(0)
		if b.g.Up() || b.g.Whole() {
			t.Error("up without power")
		}
		wantRefused(t, "no power", b.g, api.ErrDown)
		if b.g.Base() != before || b.g.Disk() != b.d || b.g.Log() == nil {
			t.Error("without power there is another base, log or disk")
		}
	}
}

// Nothing is asked of the disk while it has no power: then nothing was done, and all goes on.
func TestPowerThatComesBack(t *testing.T) {
	b := led(t)
	b.committed("a", "1")
	id := b.open()
	b.crash(0)
	wantRefused(t, "no power", b.g, api.ErrDown)
	b.ok("disk: Start", b.d.Start())
	if !b.g.Up() {
		t.Fatal("not up")
	}
	b.wantCells("power", cells("a", "1")...)
	b.commit(id)
	b.crash(0)
	b.start()
	b.wantCells("Start", cells("a", "open", "z", "open")...)
}

// Power that goes while something is done ends all, whatever it was.
func TestDeadByPower(t *testing.T) {
	flushing := func(g *engine.Engine) api.Errno { return g.Flush() }
	for _, c := range []struct {
		what string
		by   *bench
		do   func(g *engine.Engine) api.Errno
	}{
		{"See", led(t), func(g *engine.Engine) api.Errno { return g.See(9) }},
		{"Join", led(t), func(g *engine.Engine) api.Errno { return g.Join(9) }},
		{"Flush", led(t), flushing},
		{"Check", led(t), func(g *engine.Engine) api.Errno { return g.Check() }},
		{"Commit", led(t), func(g *engine.Engine) api.Errno { _, err := g.Commit(g.Going()[0]); return err }},
		{"Lead", followed(t, led(t)), func(g *engine.Engine) api.Errno { return g.Lead(2) }},
		{"Check of who follows", followed(t, led(t)), func(g *engine.Engine) api.Errno { return g.Check() }},
		{"Flush of who follows", followed(t, led(t)), flushing},
		{"Take", followed(t, led(t)), func(g *engine.Engine) api.Errno { return g.Take(framed(end(5))) }},
		{"Cut", followed(t, led(t)), func(g *engine.Engine) api.Errno { return g.Cut(1) }},
	} {
		if c.by.g.Leads() {
			c.by.put(c.by.begin(), "a", "1")
		}
		c.by.ok("Arm", c.by.d.Arm(0, 0))
		c.by.t = t
		wantErr(t, c.what, c.do(c.by.g), api.ErrDown)
		c.by.wantDead(c.what)
	}
}

// Whoever looks at pages that have no room in memory writes others: so power may go by it.
func TestDeadByLooking(t *testing.T) {
	looks := map[string]func(g *engine.Engine, id int) api.Errno{
		"Read":   func(g *engine.Engine, _ int) api.Errno { _, _, err := g.Read("q15"); return err },
		"List":   func(g *engine.Engine, _ int) api.Errno { _, err := g.List("q15", "", 9); return err },
		"Get":    func(g *engine.Engine, id int) api.Errno { _, _, err := g.Get(id, "q15"); return err },
		"Scan":   func(g *engine.Engine, id int) api.Errno { _, err := g.Scan(id, "q15", "", 9); return err },
		"Put":    func(g *engine.Engine, id int) api.Errno { _, err := g.Put(id, "q15", ""); return err },
		"Delete": func(g *engine.Engine, id int) api.Errno { _, err := g.Delete(id, "q15"); return err },
		"Abort":  func(g *engine.Engine, _ int) api.Errno { return g.Abort(g.Going()[0]) },
		"Back":   func(g *engine.Engine, _ int) api.Errno { return g.Back(g.Going()[0], 0) },
		"Save": func(g *engine.Engine, _ int) api.Errno { // one more than may be: it is taken back
			for range api.MaxSaves - 1 {
				g.Save(g.Going()[0])
			}
			_, err := g.Save(g.Going()[0])
			return err
		},
		"Whole": func(g *engine.Engine, _ int) api.Errno {
			if g.Whole() {
				return api.OK
			}
			return api.ErrDown
		},
	}
	for what, look := range looks {
		b := newBench(t, roomy, 0, 0, 2)
		b.lead(1)
		for i := range 10 {
			b.committed("b"+strconv.Itoa(10+i), text('v', 30), "q"+strconv.Itoa(10+i), text('v', 30))
		}
		id, other := b.begin(), b.begin()
		_, err := b.g.Save(id)
		b.ok("Save", err)
		b.put(id, "q10", "1")
		b.put(other, "b10", "1")
		b.ok("Arm", b.d.Arm(0, 0))
		wantErr(t, what, look(b.g, other), api.ErrDown)
		b.wantDead(what)
	}
}

// Damage that is met ends all.
func TestDeadByDamage(t *testing.T) {
	ask := map[string]func(b *bench, id int) api.Errno{
		"Read":   func(b *bench, _ int) api.Errno { _, _, err := b.g.Read("c"); return err },
		"List":   func(b *bench, _ int) api.Errno { _, err := b.g.List("", "", 9); return err },
		"Get":    func(b *bench, id int) api.Errno { _, _, err := b.g.Get(id, "c"); return err },
		"Scan":   func(b *bench, id int) api.Errno { _, err := b.g.Scan(id, "", "", 9); return err },
		"Put":    func(b *bench, id int) api.Errno { _, err := b.g.Put(id, "c", ""); return err },
		"Delete": func(b *bench, id int) api.Errno { _, err := b.g.Delete(id, "c"); return err },
	}
	for what, do := range ask {
		b := led(t)
		b.committed("a", "1", "c", "2")
		b.ok("Check", b.g.Check())
		b.ok("Flush", b.g.Flush())
		b.damage(1)
		b.start()
		if b.g.Whole() || !b.g.Up() {
			t.Errorf("%s: whole %v, up %v", what, b.g.Whole(), b.g.Up())
		}
		if what == "Read" || what == "List" {
			wantErr(t, what, do(b, 0), api.ErrDamage)
			b.wantDead(what)
			continue
		}
		b.lead(1)
		wantErr(t, what, do(b, b.begin()), api.ErrDamage)
		if !b.g.Leads() {
			t.Errorf("%s: it does not lead", what)
		}
		b.wantDead(what)
	}
	b := followed(t, led(t))
	wantErr(t, "Take", b.g.Take(framed(insert(5, 1, "a", "1"), insert(5, 1, "a", "2"))), api.ErrDamage)
	b.wantDead("Take")
}

func TestSeeAndJoin(t *testing.T) {
	for _, leads := range []bool{false, true} {
		b := newBench(t, roomy, 1, 5, 64)
		want := base.Base{Node: 1, Boot: 1, Gen: 1, Redo: 1, Seen: 5, Joined: 5}
		if leads {
			b.lead(5)
			want = b.g.Base()
		}
		b.wantSame("See and Join of nothing new", func() {
			for _, epoch := range []int{5, 4, 0, -1, math.MinInt} {
				wantErr(t, "See", b.g.See(epoch), api.OK)
				wantErr(t, "Join", b.g.Join(epoch), api.OK)
			}
		})
		wantErr(t, "See", b.g.See(6), api.OK)
		want.Seen = 6
		b.wantBase("See", want)
		wantErr(t, "Join", b.g.Join(9), api.OK)
		want.Joined = 9
		b.wantBase("Join", want)
		wantErr(t, "Join", b.g.Join(8), api.OK)
		wantErr(t, "See", b.g.See(8), api.OK)
		want.Seen = 8
		b.wantBase("See", want)
		b.wantSame("what has no room", func() {
			for _, epoch := range []int{1 << 32, math.MaxInt} {
				wantErr(t, "See", b.g.See(epoch), api.ErrRange)
				wantErr(t, "Join", b.g.Join(epoch), api.ErrRange)
			}
		})
		wantErr(t, "See", b.g.See(1<<32-1), api.OK)
		wantErr(t, "Join", b.g.Join(1<<32-1), api.OK)
		want.Seen, want.Joined = 1<<32-1, 1<<32-1
		b.wantBase("See and Join of the greatest", want)
		if b.g.Leads() != leads {
			t.Errorf("leads %v", b.g.Leads())
		}
		b.start()
		want.Boot++
		b.wantBase("Start", want)
	}
}

// The log and the disk are the node's very own.
func TestLogAndDisk(t *testing.T) {
	b := led(t)
	l := b.g.Log()
	b.committed("a", "1")
	if b.g.Log() != l || l.End() != b.g.Log().Durable() || b.g.Disk() != b.d {
		t.Error("another log or disk")
	}
}

func TestWhole(t *testing.T) {
	b := newBench(t, roomy, 0, 0, 64)
	if !b.g.Whole() {
		t.Error("without a tree not whole")
	}
	b.lead(1)
	if !b.g.Whole() {
		t.Error("with an empty tree not whole")
	}
	b.open()
	if !b.g.Whole() {
		t.Error("while somebody goes on not whole")
	}
	b.ok("Check", b.g.Check())
	b.ok("Flush", b.g.Flush())
	b.damage(1)
	b.start()
	if b.g.Whole() || !b.g.Up() {
		t.Errorf("whole %v, up %v with a damaged leaf", b.g.Whole(), b.g.Up())
	}
	b.damage(0)
	b.start()
	if b.g.Whole() {
		t.Error("whole with a damaged page 0")
	}
	// A leaf that is not the first one is a part of it, too.
	b = led(t)
	for i := range 9 {
		b.committed("k"+strconv.Itoa(i), text('v', 32))
	}
	b.ok("Check", b.g.Check())
	b.ok("Flush", b.g.Flush())
	b.damage(2)
	b.start()
	if b.wantRead("a damaged leaf", "k0", text('v', 32), true); b.g.Whole() {
		t.Error("whole with a damaged second leaf")
	}
}

// Promise 17.4: transactions.

func TestTransactions(t *testing.T) {
	b := led(t)
	id := b.begin()
	had, err := b.g.Put(id, "a", "1")
	wantErr(t, "Put", err, api.OK)
	hadNow, err := b.g.Put(id, "a", "2")
	wantErr(t, "Put", err, api.OK)
	if had || !hadNow {
		t.Errorf("Put: %v, %v", had, hadNow)
	}
	which, err := b.g.Save(id)
	again, _ := b.g.Save(id)
	if which != 0 || again != 1 || err != api.OK {
		t.Errorf("Save: %d, %d, error %d", which, again, err)
	}
	b.put(id, "b", "3")
	if is, err := b.g.Delete(id, "a"); !is || err != api.OK {
		t.Errorf("Delete: %v, error %d", is, err)
	}
	if is, err := b.g.Delete(id, "nothing"); is || err != api.OK {
		t.Errorf("Delete: %v, error %d", is, err)
	}
	if v, is, err := b.g.Get(id, "b"); v != "3" || !is || err != api.OK {
		t.Errorf("Get: %q, %v, error %d", v, is, err)
	}
	if _, is, err := b.g.Get(id, "a"); is || err != api.OK {
		t.Errorf("Get: %v, error %d", is, err)
	}
	b.ok("Back", b.g.Back(id, 0))
	if l, err := b.g.Scan(id, "", "b", 9); !slices.Equal(l, cells("a", "2")) || err != api.OK {
		t.Errorf("Scan: %q, error %d", l, err)
	}
	other := b.begin()
	if got := b.g.Going(); !slices.Equal(got, []int{id, other}) || other != id+1 {
		t.Errorf("Going: %v", got)
	}
	end := b.g.Log().End()
	if at := b.commit(id); at != end || b.g.Log().Durable() != b.g.Log().End() {
		t.Errorf("Commit: %d, want %d", at, end)
	}
	b.put(other, "z", "1")
	b.ok("Abort", b.g.Abort(other))
	if at := b.commit(b.begin()); at != 0 || len(b.g.Going()) > 0 {
		t.Errorf("Commit of nothing: %d; %v go on", at, b.g.Going())
	}
	b.wantCells("behind all", cells("a", "2")...)
}

// Their errors are those of the transactions; those that do not end all end the
// transaction alone.
func TestErrorsOfTransactions(t *testing.T) {
	b := led(t)
	owner := b.begin()
	b.put(owner, "a", "1")
	wants := map[string]api.Errno{"Begin": api.OK, "Commit": api.OK, "Abort": api.OK, "Save": api.OK, "Back": api.ErrNone,
		"Get": api.ErrLocked, "Put": api.ErrLocked, "Delete": api.ErrLocked, "Scan": api.ErrLocked}
	for what, want := range wants {
		id := b.begin()
		i := slices.IndexFunc(transactionCalls(id), func(c call) bool { return c.what == what })
		wantErr(t, what, transactionCalls(id)[i].do(b.g), want)
		if goes := slices.Contains(b.g.Going(), id); goes != (what == "Begin" || what == "Save") || !b.g.Up() {
			t.Errorf("%s: goes on %v, up %v", what, goes, b.g.Up())
		}
		for _, id := range b.g.Going()[1:] {
			b.ok("Abort", b.g.Abort(id))
		}
	}
	for _, c := range transactionCalls(-1)[1:] {
		wantErr(t, c.what+" of nobody", c.do(b.g), api.ErrTxn)
	}
	for range api.MaxTxns - 1 {
		b.begin()
	}
	wantErr(t, "Begin of too many", transactionCalls(0)[0].do(b.g), api.ErrFull)
	if !b.g.Up() {
		t.Error("not up")
	}
}

// One who follows has no transactions of its own, though some go on in its log.
func TestRoleOfTransactions(t *testing.T) {
	by := led(t)
	id := by.open()
	by.ok("wal: Flush", by.g.Log().Flush())
	b := followed(t, by)
	b.wantSame("calls of who leads", func() {
		for _, c := range transactionCalls(id) {
			wantErr(t, c.what, c.do(b.g), api.ErrRole)
		}
	})
	if len(b.g.Going()) > 0 {
		t.Errorf("Going: %v", b.g.Going())
	}
	by.wantSame("calls of who follows", func() {
		for _, c := range standbyCalls() {
			wantErr(t, c.what, c.do(by.g), api.ErrRole)
		}
	})
	by.crash(0)
	by.start()
	for _, c := range transactionCalls(id) {
		wantErr(t, c.what+" behind a start", c.do(by.g), api.ErrRole)
	}
}

// Promise 17.4: Check and Flush.

func TestFlush(t *testing.T) {
	b := led(t)
	b.committed("a", "1", "b", "2")
	b.open()
	before, end := b.g.Base(), b.g.Log().End()
	if b.lacking() == 0 {
		t.Fatal("nothing is to be flushed")
	}
	b.ok("Flush", b.g.Flush())
	if b.lacking() != 0 || b.g.Log().End() != end || b.g.Log().Durable() != end {
		t.Errorf("Flush: %d pages lack something, the log ends at %d, was %d", b.lacking(), b.g.Log().End(), end)
	}
	b.wantBase("Flush", before)
	acts := b.d.Acts()
	b.ok("Flush", b.g.Flush())
	if b.d.Acts() != acts {
		t.Error("Flush of nothing: an act")
	}
	f := followed(t, b)
	if f.lacking() == 0 {
		t.Fatal("nothing is to be flushed")
	}
	before = f.g.Base()
	f.ok("Flush", f.g.Flush())
	if f.lacking() != 0 {
		t.Errorf("Flush of who follows: %d pages lack something", f.lacking())
	}
	f.wantBase("Flush", before)
}

func TestCheckOfWhoLeads(t *testing.T) {
	b := led(t)
	b.committed("a", "1", "b", "2", "k", "3")
	one := b.begin()
	b.put(one, "c", "4")
	idle := b.begin()
	two := b.begin()
	b.put(two, "d", "5")
	b.put(one, "e", "6")
	places := func() []int { _, places := b.g.Log().Records(); return places }
	last := len(places()) - 1
	whole := places()[slices.Index(b.kinds(1), api.RecFull)]
	want := b.g.Base()
	end := b.g.Log().End()
	b.ok("Check", b.g.Check())
	r, next, err := b.g.Log().Read(end)
	table := []api.Active{{Txn: one, Last: places()[last]}, {Txn: two, Last: places()[last-1]}}
	if err != api.OK || r.Kind != api.RecCheck || !slices.Equal(r.Table, table) || next != b.g.Log().End() || b.g.Log().Durable() != next {
		t.Errorf("Check: %+v, error %d, want the table %v; it ends at %d", r, err, table, next)
	}
	// The leaf is dirty: all of it is done again from where it stood as a whole.
	want.Check, want.Redo = end, whole
	b.wantBase("Check", want)
	if b.lacking() == 0 {
		t.Error("Check: all pages are flushed")
	}

	b.ok("Flush", b.g.Flush())
	end = b.g.Log().End()
	b.ok("Check", b.g.Check())
	want.Check, want.Redo = end, end
	b.wantBase("Check of what is flushed", want)

	// The mark: each page that is turned now stands in the log as a whole first.
	end = b.g.Log().End()
	b.put(idle, "f", "7")
	b.put(two, "g", "8")
	b.wantKinds("a put behind a check", end, api.RecFull, api.RecInsert, api.RecInsert)
	wantCovered(t, "checks", b.g.Log())
	end = b.g.Log().End()
	b.ok("Check", b.g.Check())
	want.Check, want.Redo = end, want.Redo+len(framed(api.Rec{Kind: api.RecCheck, Table: table}))
	b.wantBase("Check of one dirty page", want)
	if got := b.g.Going(); !slices.Equal(got, []int{one, idle, two}) {
		t.Errorf("Going: %v", got)
	}
	b.commit(one)
	b.commit(two)
	b.crash(math.MaxUint64)
	b.start()
	b.wantCells("Start", cells("a", "1", "b", "2", "c", "4", "d", "5", "e", "6", "g", "8", "k", "3")...)
}

// A check has room beside what is to be taken back.
func TestCheckHasRoom(t *testing.T) {
	for acts := range 4 {
		room := engine.Spare + txn.Cost*acts
		for _, left := range []int{room - 1, room} {
			b := led(t)
			b.committed("a", "1")
			id := b.begin()
			for i := range acts {
				b.put(id, "a", strconv.Itoa(i)) // each act counts, though it is one key
			}
			b.fill(left)
			if left == room {
				wantErr(t, "Check with just room", b.g.Check(), api.OK)
				continue
			}
			b.wantSame("Check", func() {
				wantErr(t, "Check", b.g.Check(), api.ErrFull)
			})
			b.ok("Abort", b.g.Abort(id))
			if acts > 0 {
				wantErr(t, "Check behind an abort", b.g.Check(), api.OK)
			}
		}
	}
}

// One who follows begins at the last check of its log, if that is a later one than its own.
func TestCheckOfWhoFollows(t *testing.T) {
	by := led(t)
	by.committed("a", "1", "b", "2")
	lead := by.g.Base().Check
	b := followed(t, by)
	want := base.Base{Node: 1, Boot: 1, Gen: 1, Redo: 1}
	b.wantBase("Take", want)
	b.ok("Check", b.g.Check())
	want.Check, want.Redo = lead, lead
	b.wantBase("Check", want)
	if b.lacking() != 0 {
		t.Errorf("Check: %d pages lack something", b.lacking())
	}
	by.open()
	by.committed("k", "1")
	b.takeFrom(by)
	acts, end := b.d.Acts(), b.g.Log().End()
	b.ok("Check", b.g.Check())
	b.wantBase("Check of nothing new", want)
	if b.d.Acts() != acts || b.lacking() == 0 {
		t.Errorf("Check of nothing new: %d acts, %d pages lack something", b.d.Acts()-acts, b.lacking())
	}
	by.ok("Check", by.g.Check())
	by.committed("m", "1")
	by.ok("Check", by.g.Check())
	by.committed("n", "1")
	b.takeFrom(by)
	b.ok("Check", b.g.Check())
	want.Check, want.Redo = by.g.Base().Check, by.g.Base().Check
	b.wantBase("Check of the last one", want)
	if b.lacking() != 0 || b.g.Log().End() != by.g.Log().End() || end >= b.g.Log().End() {
		t.Errorf("Check: %d pages lack something, the log ends at %d", b.lacking(), b.g.Log().End())
	}
	b.crash(0)
	b.start()
	b.wantCells("Start", cells("a", "1", "b", "2", "k", "1", "m", "1", "n", "1")...)
	empty := newBench(t, roomy, 1, 0, 64)
	empty.wantSame("Check without a check", func() { wantErr(t, "Check", empty.g.Check(), api.OK) })
}

// The log has no room: one who follows needs none.
func TestCheckOfWhoFollowsNeedsNoRoom(t *testing.T) {
	by := led(t)
	by.fill(0)
	b := followed(t, by)
	if b.g.Log().Left() != 0 {
		t.Fatalf("%d left", b.g.Log().Left())
	}
	wantErr(t, "Check", b.g.Check(), api.OK)
	if b.g.Base().Check != by.g.Base().Check {
		t.Errorf("Check: %+v", b.g.Base())
	}
}

// Promise 17.5.

func TestRead(t *testing.T) {
	by := led(t)
	by.committed("a", "1", "b", "2", text('k', 16), text('v', 32), "e", "")
	by.open()
	other := by.begin()
	by.put(other, "m", "open")
	by.ok("wal: Flush", by.g.Log().Flush())
	for what, b := range map[string]*bench{"leads": by, "follows": followed(t, by), "starts": started(t, by.d, 64)} {
		b.t = t
		b.wantRead(what, "a", "1", true)
		b.wantRead(what, "b", "2", true)
		b.wantRead(what, text('k', 16), text('v', 32), true)
		b.wantRead(what, "e", "", true)
		b.wantRead(what, "z", "", false)
		b.wantRead(what, "m", "", false)
		b.wantRead(what, "nothing", "", false)
		for _, key := range []string{"", text('k', 17), text('k', 1000)} {
			if v, is, err := b.g.Read(key); v != "" || is || err != api.ErrKey {
				t.Errorf("%s: Read(%q): %q, %v, error %d", what, key, v, is, err)
			}
		}
		b.wantSame(what, func() { b.wantRead(what, "c", "", false) })
	}
	if got := by.g.Going(); len(got) != 2 {
		t.Errorf("Going: %v", got)
	}
	// Nobody holds what is read, and what is read holds nobody.
	by.put(other, "nothing", "1")
	by.commit(other)
	by.wantRead("a commit", "nothing", "1", true)
	by.wantRead("a commit", "m", "open", true)
}

// A key that was turned and turned back, or is turned once more, is as it was ahead.
func TestReadOfManyTurns(t *testing.T) {
	by := led(t)
	by.committed("a", "1", "b", "2", "c", "3")
	id := by.begin()
	by.g.Save(id)
	by.put(id, "a", "x")
	by.remove(id, "a")
	by.put(id, "a", "y")
	by.remove(id, "b")
	by.put(id, "d", "x")
	by.remove(id, "d")
	by.put(id, "e", "x")
	want := cells("a", "1", "b", "2", "c", "3")
	for _, what := range []string{"turned", "taken back"} {
		by.ok("wal: Flush", by.g.Log().Flush())
		by.wantCells(what, want...)
		followed(t, by).wantCells(what, want...)
		started(t, by.d, 64).wantCells(what, want...)
		by.ok("Back", by.g.Back(id, 0))
	}
	by.commit(id)
	by.wantCells("a commit", want...)
}

func TestList(t *testing.T) {
	by := led(t)
	by.committed("a", "1", "b", "2", "c", "3", "e", "", text('k', 16), "4")
	by.open()
	by.ok("wal: Flush", by.g.Log().Flush())
	all := cells("a", "1", "b", "2", "c", "3", "e", "", text('k', 16), "4")
	for what, b := range map[string]*bench{"leads": by, "follows": followed(t, by), "starts": started(t, by.d, 64)} {
		b.t = t
		for most := range 7 {
			b.wantList(what, "", "", most, all[:min(most, 5)]...)
			b.wantList(what, "b", "", most, all[1:min(most+1, 5)]...)
			b.wantList(what, "", "c", most, all[:min(most, 3)]...)
		}
		for _, most := range []int{manyCells, math.MaxInt - 3, math.MaxInt - 2, math.MaxInt} {
			b.wantList(what, "", "", most, all...)
		}
		b.wantList(what, "b", "b", 9, all[1])
		b.wantList(what, "bb", "bc", 9)
		b.wantList(what, "b", "dd", 9, all[1:3]...)
		b.wantList(what, "z", "", 9)
		b.wantList(what, text('k', 16), text('k', 16), 9, all[4])
		for _, c := range []struct {
			lo, hi string
			most   int
			want   api.Errno
		}{
			{text('k', 17), "", 9, api.ErrKey}, {"", text('k', 17), 9, api.ErrKey}, {text('k', 17), "a", -1, api.ErrKey},
			{"b", "a", 9, api.ErrRange}, {"aa", "a", 9, api.ErrRange}, {"", "", -1, api.ErrRange},
			{"a", "b", math.MinInt, api.ErrRange}, {"b", text('a', 17), 0, api.ErrKey},
		} {
			if l, err := b.g.List(c.lo, c.hi, c.most); len(l) > 0 || err != c.want {
				t.Errorf("%s: List(%q, %q, %d): %q, error %d, want %d", what, c.lo, c.hi, c.most, l, err, c.want)
			}
		}
		if !b.g.Up() {
			t.Errorf("%s: not up", what)
		}
	}
}

// Keys that are turned by those who go on do not take the place of others in a short list.
func TestListOfManyTurned(t *testing.T) {
	by := led(t)
	by.committed("m", "1", "n", "2")
	id, other := by.begin(), by.begin()
	for i := range 12 {
		by.put(id, "a"+strconv.Itoa(10+i), "open")
	}
	by.put(other, "b", "open")
	by.remove(other, "m")
	by.ok("wal: Flush", by.g.Log().Flush())
	for what, b := range map[string]*bench{"leads": by, "follows": followed(t, by)} {
		b.wantList(what, "", "", 1, cells("m", "1")...)
		b.wantList(what, "a", "", 2, cells("m", "1", "n", "2")...)
		b.wantList(what, "a", "b", 2)
		b.wantList(what, "m", "m", 2, cells("m", "1")...)
	}
}

// What is handed out is the caller's.
func TestListIsNewMemory(t *testing.T) {
	b := led(t)
	b.committed("a", "1", "b", "2")
	b.open()
	l, _ := b.g.List("", "", 9)
	l[0].Val = "other"
	l = append(l[:1], api.Cell{Key: "x"})
	b.wantCells("List", cells("a", "1", "b", "2")...)
	going := b.g.Going()
	going[0] = -1
	if got := b.g.Going(); got[0] == -1 || len(l) != 2 {
		t.Errorf("Going: %v", got)
	}
}

// Promise 17.7.

func TestEnginesThatNobodyStarted(t *testing.T) {
	for _, g := range []*engine.Engine{nil, {}} {
		wantRefused(t, "nobody", g, api.ErrState)
		if g.Up() || g.Leads() || g.Whole() || g.Redone() != 0 || len(g.Going()) > 0 {
			t.Error("there is something")
		}
		if g.Base() != (base.Base{}) || g.Log() != nil || g.Disk() != nil {
			t.Error("there is a base, a log or a disk")
		}
	}
}

// Example 1.
func TestExample(t *testing.T) {
	b := newBench(t, 1201, 0, 1, 6)
	b.lead(1)
	b.committed("a", "1")
	b.crash(0)
	b.start()
	b.wantRead("example", "a", "1", true)
}

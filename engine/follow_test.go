package engine_test

import (
	"math"
	"slices"
	"testing"

	"gharry/api"
	"gharry/base"
	"gharry/engine"
	"gharry/pool"
	"gharry/rec"
	"gharry/redo"
)

// Promise 17.6: Take.

// Frame by frame, and all at once: what was committed up to there is told.
func TestTake(t *testing.T) {
	by := led(t)
	by.committed("a", "1", "b", "2")
	id := by.open()
	by.committed("k", "1")
	by.commit(id)
	by.ok("Check", by.g.Check())
	steps := map[int][]api.Cell{0: nil, 1: cells("a", "1", "b", "2"), 2: cells("a", "1", "b", "2", "k", "1"), 3: cells("a", "open", "k", "1", "z", "open")}
	b := newBench(t, roomy, 1, 0, 64)
	before := b.g.Base()
	for b.g.Log().End() < by.g.Log().End() {
		s, err := by.g.Log().From(b.g.Log().End(), 0)
		b.ok("wal: From", err)
		at := b.g.Log().End()
		wantErr(t, "Take", b.g.Take(s), api.OK)
		if b.g.Log().End() != at+len(s) || b.g.Log().Durable() != at+len(s) {
			t.Fatalf("Take: the log ends at %d, lasts to %d, want %d", b.g.Log().End(), b.g.Log().Durable(), at+len(s))
		}
		b.wantCells("Take", steps[len(redo.Commits(b.g.Log(), b.g.Log().End()))]...)
		started(t, b.d, 64).wantCells("Start", steps[len(redo.Commits(b.g.Log(), b.g.Log().End()))]...)
	}
	b.wantBase("Take", before)
	if b.g.Redone() != 0 || b.g.Leads() {
		t.Errorf("Take: Redone %d, leads %v", b.g.Redone(), b.g.Leads())
	}
	one, _ := b.g.Log().From(1, 1<<30)
	other, _ := by.g.Log().From(1, 1<<30)
	if one != other || one == "" {
		t.Error("Take: another log")
	}
	all := followed(t, by)
	all.wantCells("Take of all", steps[3]...)
	if !slices.Equal(made(t, b.g.Log(), 200), made(t, all.g.Log(), 200)) {
		t.Error("Take of all: other pages")
	}
	all.wantSame("Take of nothing", func() { wantErr(t, "Take of nothing", all.g.Take(""), api.OK) })
}

func TestTakeRefused(t *testing.T) {
	by := led(t)
	by.committed("a", "1")
	b := followed(t, by)
	whole := framed(end(0))
	lacking := framed(insert(9, 200, "a", "1"))
	for _, c := range []struct {
		what, s string
		want    api.Errno
	}{
		{"no frame", "x", api.ErrForm},
		{"half a frame", whole[:len(whole)-1], api.ErrForm},
		{"a frame and a half", whole + whole[:5], api.ErrForm},
		{"a frame, and bytes behind", whole + "\x00", api.ErrForm},
		{"another sum", whole[:2] + "\x00\x00\x00\x00" + whole[6:], api.ErrForm},
		{"a page that is not there", lacking, api.ErrRange},
		{"a page that is not there, behind others", whole + lacking + whole, api.ErrRange},
		{"the greatest page", framed(insert(9, 1<<16-1, "a", "1")), api.ErrRange},
		{"a delete of such a page", framed(api.Rec{Kind: api.RecDelete, Txn: 9, Page: 200, Key: "a"}), api.ErrRange},
		{"an update of such a page", framed(api.Rec{Kind: api.RecUpdate, Txn: 9, Page: 200, Key: "a"}), api.ErrRange},
		{"an undo of such a page", framed(api.Rec{Kind: api.RecUndo, Act: api.RecDelete, Txn: 9, Page: 200, Key: "a"}), api.ErrRange},
		{"an image of such a page", framed(api.Rec{Kind: api.RecFull, Images: []api.Image{{Page: 200, Text: text('x', api.PageBytes)}}}), api.ErrRange},
		{"a page that is not there, and no frame", lacking + "x", api.ErrForm},
	} {
		b.wantSame(c.what, func() { wantErr(t, c.what, b.g.Take(c.s), c.want) })
	}
	b.fill(2*len(whole) - 1)
	b.wantSame("no room", func() {
		wantErr(t, "no room", b.g.Take(whole+whole), api.ErrFull)
		wantErr(t, "no room, nor a page", b.g.Take(lacking+lacking), api.ErrFull)
		wantErr(t, "no room, nor a frame", b.g.Take(whole+whole+"x"), api.ErrForm)
	})
	wantErr(t, "just room", b.g.Take(whole), api.OK)
	b.wantCells("behind all", cells("a", "1")...)
	for _, left := range []int{len(lacking), len(lacking) + 19} {
		b := followed(t, by)
		b.fill(left)
		b.wantSame("just room, and no page", func() { wantErr(t, "just room, and no page", b.g.Take(lacking), api.ErrRange) })
	}
}

// A page that is the last one is there; the next one is not.
func TestTakeOfTheLastPage(t *testing.T) {
	b := newBench(t, 23, 1, 0, 2)
	b.take(rootOf(t), insert(5, 1, "a", "1"), commit(5))
	wantErr(t, "Take of the page 2", b.g.Take(framed(insert(6, 2, "a", "1"))), api.ErrRange)
	b.wantCells("Take", cells("a", "1")...)
}

// A record whose page has not what it turns is damage; the log has it.
func TestTakeOfDamage(t *testing.T) {
	b := newBench(t, roomy, 1, 0, 64)
	b.take(rootOf(t))
	wantErr(t, "Take", b.g.Take(framed(api.Rec{Kind: api.RecDelete, Txn: 5, Page: 1, Key: "a"})), api.ErrDamage)
	b.wantDead("Take")
	g, err := engine.Start(b.d, 64)
	wantErr(t, "Start", err, api.ErrDamage)
	if g != nil {
		t.Error("there is an engine")
	}
}

// With the fewest frames pages go to and fro; it is all the same.
func TestTakeWithFewFrames(t *testing.T) {
	by := led(t)
	var want []api.Cell
	for i := range 60 {
		key := text(rune2(i), 12)
		by.committed(key, text('v', 32))
		want = append(want, api.Cell{Key: key, Val: text('v', 32)})
	}
	b := newBench(t, roomy, 1, 0, pool.Least)
	b.takeFrom(by)
	slices.SortFunc(want, func(a, b api.Cell) int { return map[bool]int{true: -1, false: 1}[a.Key < b.Key] })
	b.wantCells("Take", want...)
	b.ok("Flush", b.g.Flush())
	if b.lacking() != 0 {
		t.Errorf("%d pages lack something", b.lacking())
	}
}

// rune2 is one of many letters.
func rune2(i int) byte { return "ABCDEFGHIJKLMNOPQRSTUVWXYZabcdefghijklmnopqrstuvwxyz0123456789"[i] }

// Promise 17.6: Cut.

func TestCut(t *testing.T) {
	by := led(t)
	by.committed("a", "1", "b", "2")
	id := by.open()
	first := by.g.Log().End()
	by.commit(id)
	by.committed("k", "1")
	_, places := by.g.Log().Records()
	for _, at := range append(places, by.g.Log().End()) {
		b := followed(t, by)
		b.ok("Check", b.g.Check())
		before := b.g.Base()
		wantErr(t, "Cut", b.g.Cut(at), api.OK)
		l := b.g.Log()
		if l.End() != at || l.Durable() != at || l.Run() != 2 || !b.g.Up() || b.g.Leads() {
			t.Errorf("Cut(%d): the log ends at %d, lasts to %d, in the run %d", at, l.End(), l.Durable(), l.Run())
		}
		before.Boot, before.Gen, before.Check, before.Redo = 2, 2, 0, 1
		b.wantBase("Cut", before)
		records, _ := l.Records()
		if b.g.Redone() != len(records) {
			t.Errorf("Cut(%d): Redone %d, want %d", at, b.g.Redone(), len(records))
		}
		want := [][]api.Cell{nil, cells("a", "1", "b", "2"), cells("a", "open", "z", "open"), cells("a", "open", "k", "1", "z", "open")}
		had := want[len(redo.Commits(l, at))]
		b.wantCells("Cut", had...)
		started(t, b.d, 64).wantCells("Start behind a cut", had...)
		b.takeFrom(by)
		b.wantCells("Take behind a cut", want[3]...)
		b.start()
		if b.g.Base().Boot != 3 || b.g.Base().Gen != 2 {
			t.Errorf("Start: %+v", b.g.Base())
		}
		b.wantCells("Start", want[3]...)
	}
	// Others may go on where it was cut.
	b := followed(t, by)
	b.ok("Cut", b.g.Cut(first))
	b.wantCells("Cut", cells("a", "1", "b", "2")...)
	b.lead(2)
	if id := b.begin(); id != (4*2+1)<<20+1 {
		t.Errorf("Begin: %d", id)
	}
	b.committed("c", "3")
	b.wantCells("Lead", cells("a", "1", "b", "2", "c", "3")...)
}

// Nothing that a page had of what was cut counts any more, though all pages were flushed.
func TestCutForgets(t *testing.T) {
	by := led(t)
	by.committed("a", "1")
	at := by.g.Log().End()
	by.committed("a", "2", "b", "3")
	b := followed(t, by)
	b.ok("Flush", b.g.Flush())
	b.ok("Cut", b.g.Cut(at))
	b.wantCells("Cut", cells("a", "1")...)
	b.ok("Flush", b.g.Flush())
	if b.lacking() != 0 {
		t.Errorf("%d pages lack something", b.lacking())
	}
	b.ok("Cut", b.g.Cut(1))
	b.wantCells("Cut of all")
	if b.g.Base().Gen != 3 || b.g.Base().Boot != 3 || b.g.Log().Run() != 3 {
		t.Errorf("Cut: %+v", b.g.Base())
	}
}

func TestCutRefused(t *testing.T) {
	by := led(t)
	by.committed("a", "1")
	// Within this value there stands what looks like a record.
	inner := framed(end(0))
	by.committed("b", inner)
	b := followed(t, by)
	_, places := b.g.Log().Records()
	inside := places[len(places)-1] - len(inner)
	if r, _, err := b.g.Log().Read(inside); err != api.OK || r.Kind != api.RecEnd {
		t.Fatalf("nothing looks like a record: %+v", r)
	}
	for _, c := range []struct {
		lsn  int
		want api.Errno
	}{
		{0, api.ErrRange}, {-1, api.ErrRange}, {math.MinInt, api.ErrRange}, {b.g.Log().End() + 1, api.ErrRange}, {math.MaxInt, api.ErrRange},
		{2, api.ErrForm}, {b.g.Log().End() - 1, api.ErrForm}, {inside, api.ErrForm},
	} {
		b.wantSame("Cut", func() { wantErr(t, "Cut", b.g.Cut(c.lsn), c.want) })
	}
}

// Generations and starts come to an end.
func TestCutOfTheLastGeneration(t *testing.T) {
	for _, c := range []struct {
		boot, gen int
		want      api.Errno
	}{
		{5, 1<<16 - 1, api.ErrFull}, {5, 1<<16 - 2, api.OK},
		{1<<24 - 3, 1, api.ErrFull}, {1<<24 - 2, 1, api.ErrFull}, {1<<24 - 4, 1, api.OK},
	} {
		d := newDisk(t, roomy)
		ok(t, "base: Save", base.Save(d, base.Base{Boot: c.boot, Gen: c.gen, Redo: 1}))
		b := &bench{t: t, frames: 64, d: d}
		b.start()
		if c.want != api.OK {
			b.wantSame("Cut", func() {
				wantErr(t, "Cut", b.g.Cut(1), c.want)
				wantErr(t, "Cut at no place", b.g.Cut(0), api.ErrRange)
			})
			continue
		}
		wantErr(t, "Cut", b.g.Cut(1), api.OK)
		b.wantBase("Cut", base.Base{Boot: c.boot + 2, Gen: c.gen + 1, Redo: 1})
		wantErr(t, "Cut once more", b.g.Cut(1), api.ErrFull)
		if c.boot > 5 {
			b.start()
			b.wantBase("Start", base.Base{Boot: 1<<24 - 1, Gen: c.gen + 1, Redo: 1})
		}
	}
}

// A log whose beginning can't be done again is none that can be cut: nothing goes on.
func TestCutOfDamage(t *testing.T) {
	b := newBench(t, roomy, 1, 0, 64)
	b.add(insert(5, 200, "a", "1")) // a page that is not there
	b.ok("wal: Flush", b.g.Log().Flush())
	saved := b.g.Base()
	saved.Redo = b.g.Log().End()
	b.ok("base: Save", base.Save(b.d, saved))
	b.start()
	wantErr(t, "Cut", b.g.Cut(b.g.Log().End()), api.ErrDown)
	b.wantDead("Cut")
}

// Power that goes at any act of a cut, or of what is taken behind it.
func TestCutWithoutPower(t *testing.T) {
	by := led(t)
	by.committed("a", "1", "b", "2")
	by.open()
	by.ok("Check", by.g.Check())
	by.committed("k", "1")
	cut := by.g.Log().End()
	by.committed("a2", "2")
	part, err := by.g.Log().From(cut, 1<<30)
	by.ok("wal: From", err)
	full := followed(t, by)
	full.ok("Check", full.g.Check())
	steps := [][]api.Cell{cells("a", "1", "b", "2", "k", "1"), cells("a", "1", "a2", "2", "b", "2", "k", "1")}
	for _, keep := range []uint64{0, 1, 2, 5, math.MaxUint64} {
		for acts, done := 0, false; !done; acts++ {
			b := started(t, full.d, 2)
			b.ok("Arm", b.d.Arm(acts, keep))
			err := b.g.Cut(cut)
			if err == api.OK {
				b.wantList("Cut", "", "", 9, steps[0]...)
				err = b.g.Take(part)
			}
			if done = err == api.OK; done {
				b.wantCells("Take", steps[1]...)
				continue
			}
			wantErr(t, "Cut or Take", err, api.ErrDown)
			b.start()
			b.wantCells("Start", steps[len(redo.Commits(b.g.Log(), b.g.Log().End()))-2]...)
			b.ok("Cut", b.g.Cut(cut))
			b.takeFrom(by)
			b.wantCells("Cut and Take", steps[1]...)
		}
	}
}

// A text that is handed in is not changed, nor kept: a log of it is the same in the end.
func TestTakeKeepsNothing(t *testing.T) {
	b := newBench(t, roomy, 1, 0, 64)
	s := framed(rootOf(t), insert(5, 1, "a", "1"), commit(5))
	many := 0
	for at := 0; at < len(s); many++ {
		_, n, err := rec.Open(s, at)
		ok(t, "rec.Open", err)
		at += n
	}
	b.ok("Take", b.g.Take(s))
	if records, _ := b.g.Log().Records(); len(records) != many {
		t.Errorf("Take: %d records, want %d", len(records), many)
	}
}

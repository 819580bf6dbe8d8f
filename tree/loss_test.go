package tree_test

import (
	"maps"
	"math"
	"math/rand"
	"slices"
	"testing"

	"gharry/api"
	"gharry/page"
	"gharry/pool"
	"gharry/tree"
)

// Without power: pages that are in no frame can't be told.
func TestDownAheadOfEachCall(t *testing.T) {
	b := newTree(t, 4, 40)
	for i := range 40 {
		b.puts(api.Cell{Key: keyOf(i), Val: fill(9)})
	}
	b.ok("FlushAll", b.p.FlushAll())
	b.open(2)
	end := b.l.End()
	b.ok("Crash", b.d.Crash(0))
	if val, is, err := b.x.Get(keyOf(3)); val != "" || is || err != api.ErrDown {
		t.Errorf("Get: %q, %v, error %d", val, is, err)
	}
	for _, most := range []int{-1, 0, 3} {
		if l, err := b.x.Scan("", "", most); len(l) > 0 || err != api.ErrDown {
			t.Errorf("Scan: %v, error %d", l, err)
		}
	}
	if id, err := b.x.Leaf("a"); id != 0 || err != api.ErrDown {
		t.Errorf("Leaf: %d, error %d", id, err)
	}
	if id, err := b.x.Place("a", 51); id != 0 || err != api.ErrDown {
		t.Errorf("Place: %d, error %d", id, err)
	}
	_, err := b.x.Place("a", 52)
	wantErr(t, "Place of 52", err, api.ErrLong)
	wantErr(t, "Create", b.x.Create(), api.ErrDown)
	wantErr(t, "Tidy", b.x.Tidy("a"), api.ErrDown)
	wantErr(t, "Cover", b.x.Cover(1), api.ErrDown)
	wantErr(t, "Cover of no page", b.x.Cover(-1), api.ErrRange)
	wantErr(t, "Cover of no page", b.x.Cover(40), api.ErrRange)
	wantErr(t, "Change", b.x.Change(1, 1, api.RecDelete, api.Cell{Key: "a"}), api.ErrDown)
	wantErr(t, "Change with no act", b.x.Change(1, 1, 0, api.Cell{Key: "a"}), api.ErrArg)
	wantErr(t, "Change of no page", b.x.Change(40, 1, api.RecDelete, api.Cell{Key: "a"}), api.ErrRange)
	if b.x.Born() || b.x.Check() || b.x.Free() != 0 || b.x.Height() != 0 || b.x.Redo() != end || b.l.End() != end {
		t.Errorf("Born %v, Check %v, Free %d, Height %d, Redo %d of %d", b.x.Born(), b.x.Check(), b.x.Free(), b.x.Height(), b.x.Redo(), end)
	}
	b.ok("Start", b.d.Start())
	b.wantTree()
}

// What is in frames is told without power, and turned there.
func TestDownWithAllInFrames(t *testing.T) {
	b := newTree(t, 8, 8)
	b.hand(1, map[int]string{1: leaf(cellsOf("k", 200)...)})
	b.face()
	b.ok("Crash", b.d.Crash(0))
	b.puts(api.Cell{Key: "a", Val: fill(32)}, api.Cell{Key: "z", Val: fill(32)})
	b.wantTree()
	b.wantRedone()
	if b.x.Height() != 2 {
		t.Errorf("Height %d", b.x.Height())
	}
}

// A page that is to be laid anew is in no frame: nothing is laid then, nor in the log.
func TestDownWithNewPages(t *testing.T) {
	for _, frames := range []int{2, 3, 4, 8} {
		b := newTree(t, frames, 8)
		b.hand(1, map[int]string{1: leaf(cellsOf("k", 200)...)})
		b.wantCells()
		end := b.l.End()
		b.ok("Crash", b.d.Crash(0))
		if id, err := b.x.Place("k", 51); id != 0 || err != api.ErrDown {
			t.Errorf("Place: %d, error %d", id, err)
		}
		if b.l.End() != end {
			t.Errorf("the log ends at %d, was %d", b.l.End(), end)
		}
		b.wantCells()
		if got := b.x.Height(); got != 1 {
			t.Errorf("Height %d", got)
		}
		b.ok("Start", b.d.Start())
		b.wantTree()
		if b.x.Height() != 1 {
			t.Errorf("Height %d", b.x.Height())
		}
	}
}

// Frames that others pinned: with none left all that needs one tells so, and changes nothing.
func TestPinnedFrames(t *testing.T) {
	build := func(pins ...int) *bench {
		b := newTree(t, 3, 9)
		b.hand(1, map[int]string{1: leaf(cellsOf("k", 200)...)})
		for _, id := range pins {
			b.ok("Pin", b.p.Pin(id))
		}
		return b
	}
	b := build(0, 1, 5)
	end := b.l.End()
	if id, err := b.x.Place("k", 51); id != 0 || err != api.ErrFull {
		t.Errorf("Place: %d, error %d", id, err)
	}
	b.wantCells()
	if b.l.End() != end || b.x.Height() != 1 || !b.x.Check() {
		t.Errorf("the log ends at %d, was %d; Height %d", b.l.End(), end, b.x.Height())
	}
	b.ok("Unpin", b.p.Unpin(5))
	if id, err := b.x.Place("k", 51); id != 1 || err != api.OK {
		t.Errorf("Place with one frame: %d, error %d", id, err)
	}
	b.wantTree()
	for id := range 9 {
		want := api.ErrNone
		if id < 2 {
			want = api.OK
		}
		wantErr(t, "Unpin", b.p.Unpin(id), want)
	}
	for _, id := range []int{0, 1} {
		wantErr(t, "Unpin once more", b.p.Unpin(id), api.ErrNone)
	}
	b = build(5, 6, 7)
	b.x.Mark(b.l.End())
	_, _, err := b.x.Get("k")
	wantErr(t, "Get", err, api.ErrFull)
	wantErr(t, "Create", b.x.Create(), api.ErrFull)
	wantErr(t, "Cover", b.x.Cover(1), api.ErrFull)
	wantErr(t, "Change", b.x.Change(1, 1, api.RecInsert, api.Cell{Key: "a"}), api.ErrFull)
	wantErr(t, "Tidy", b.x.Tidy("k"), api.ErrFull)
}

// Logs of all sizes: where one has no room for the next record, nothing changes.
func TestLogWithoutRoom(t *testing.T) {
	t.Parallel()
	met := map[string]int{}
	for sectors := 3; sectors < 400; sectors += 7 {
		b := newBench(t, 40, 40, sectors)
		b.guard = func(what string, call func() api.Errno) api.Errno {
			b.face()
			before, acts := b.face(), b.d.Acts()
			err := call()
			if err != api.OK {
				met[what]++
				wantErr(t, what, err, api.ErrFull)
				if d := before.differs(b.face()); d != "" || b.d.Acts() != acts {
					t.Errorf("%s: changed: %s", what, d)
				}
			}
			return err
		}
		if b.do("Create", b.x.Create) != api.OK {
			continue
		}
		for i, c := range script(41, 250, 60) {
			if i%5 == 4 {
				b.x.Mark(b.l.End())
			}
			err := b.turn(c)
			if !b.x.Check() {
				t.Fatalf("no tree: %s", look(b.p).wrong)
			}
			if err != api.OK {
				break
			}
		}
		if t.Failed() {
			t.Fatalf("a log of %d sectors", sectors)
		}
	}
	for _, what := range []string{"Create", "Place", "Cover", "Tidy"} {
		if met[what] == 0 {
			t.Errorf("no %s met a full log: %v", what, met)
		}
	}
}

// keeps are choices of the sectors that last.
func keeps() []uint64 {
	return []uint64{0, math.MaxUint64, 1, 2, 3, 5, 0xaaaa, 0xfff0}
}

// loses does a call within which the power goes, behind more acts each time, until it does
// not. Each time it is on again, and asked what the call left; a log that met the loss
// itself is dead, and ends it.
func (b *bench) loses(acts int, call func() api.Errno, left func()) api.Errno {
	b.t.Helper()
	for ; b.l.Flush() == api.OK; acts++ {
		b.ok("Arm", b.d.Arm(acts, keeps()[acts%8]))
		err := call()
		b.d.Calm()
		if b.d.Up() {
			return err
		}
		wantErr(b.t, "a call within which the power goes", err, api.ErrDown)
		b.ok("Start", b.d.Start())
		left()
	}
	return api.ErrDown
}

// If there are frames for all pages that are laid together, a loss of power within a call
// changes nothing: the pages are as the records ahead make them.
func TestLossChangesNothing(t *testing.T) {
	t.Parallel()
	met := map[string]int{}
	r := rand.New(rand.NewSource(6))
	for _, frames := range []int{9, 12} {
		b := newBench(t, frames, 100, 7000)
		shadow, from := emptyPool(t, b.l, 64, b.pages), 1
		b.guard = func(what string, call func() api.Errno) api.Errno {
			if what != "Change" && r.Intn(4) == 0 {
				b.fillFrames(r)
			}
			end := b.l.End()
			again(t, shadow, b.l, from)
			if from = end; what == "Change" {
				shadow = emptyPool(t, b.l, 64, b.pages) // its record is in the log ahead of it
				from = 1
			}
			return b.loses(r.Intn(7), call, func() {
				met[what]++
				if b.l.End() != end {
					t.Fatalf("%s: the log ends at %d, was %d", what, b.l.End(), end)
				}
				if what != "Change" {
					b.wantSamePages(shadow)
				}
				if t.Failed() {
					t.Fatal(what)
				}
			})
		}
		b.ok("Create", b.do("Create", b.x.Create))
		guard := b.guard
		b.guard = nil
		for i := range 90 {
			b.puts(api.Cell{Key: keyOf(i), Val: fill(20)})
		}
		b.guard = guard
		for i := range 90 {
			b.ok("put", b.put(keyOf(i * 37 % 90)[:2], fill(32)))
		}
		for i := range 90 {
			b.ok("delete", b.del(keyOf(i*53%90)))
		}
		b.guard = nil
		b.wantTree()
		b.wantRedone()
	}
	for _, what := range []string{"Place", "Cover", "Leaf", "Tidy"} {
		if met[what] < 10 {
			t.Errorf("%s met few losses: %v", what, met)
		}
	}
}

// fillFrames lets all frames have dirty pages, so that taking another one needs the disk.
func (b *bench) fillFrames(r *rand.Rand) {
	ids := slices.Sorted(maps.Keys(look(b.p).used))
	r.Shuffle(len(ids), func(i, j int) { ids[i], ids[j] = ids[j], ids[i] })
	b.x.Mark(b.l.End())
	for _, id := range ids[:min(len(ids), b.frames)] {
		b.x.Cover(id)
	}
}

// With less frames than pages that are laid together the power may go when their record is
// in the log already: the tree has the same cells all the same, is one, is as the log makes
// it, and goes on.
func TestLossWithFewFrames(t *testing.T) {
	t.Parallel()
	late := 0
	r := rand.New(rand.NewSource(16))
	for _, frames := range []int{2, 3, 4} {
		b := newTree(t, frames, 48)
		b.guard = func(what string, call func() api.Errno) api.Errno {
			end := b.l.End()
			return b.loses(r.Intn(30), call, func() {
				if b.l.End() != end {
					late++
					b.p.FlushAll()
					if b.x.Redo() > end {
						t.Errorf("%s: Redo %d, but the record %d is not in all pages", what, b.x.Redo(), end)
					}
				}
				if b.l.Flush() != api.OK {
					return
				}
				if r.Intn(2) == 0 {
					b.x.Mark(b.l.End()) // so that another record comes ahead of what the pool lacks
				}
				if !b.x.Born() || !b.x.Check() {
					t.Fatalf("%s: Born %v, Check %v", what, b.x.Born(), b.x.Check())
				}
				if what != "Change" {
					b.wantCells()
					b.wantShapeOfLog()
				}
				end = b.l.End()
			})
		}
		for i, c := range script(61, 300, 70) {
			if err := b.turn(c); err != api.OK {
				if b.l.Flush() == api.OK {
					t.Fatalf("a step: error %d", err)
				}
				b.restart(2 + i)
			}
			if t.Failed() {
				t.FailNow()
			}
		}
		b.guard = nil
		b.wantTree()
		b.wantRedone()
	}
	if late < 20 {
		t.Errorf("%d losses behind a record alone", late)
	}
}

// wantShapeOfLog asks whether the tree tells the leaves that the log's records make.
func (b *bench) wantShapeOfLog() {
	b.t.Helper()
	p := emptyPool(b.t, b.l, pool.Most, b.pages)
	again(b.t, p, b.l, 1)
	s := look(p)
	if b.x.Height() != s.height || b.x.Free() != b.pages-len(s.used) {
		b.t.Errorf("Height %d, Free %d; the log's: %d, %d", b.x.Height(), b.x.Free(), s.height, b.pages-len(s.used))
	}
	for key := range b.cells {
		b.wantLeaf(s, key)
	}
}

// restart opens all again, and does again what lasts, from the first record on; what the
// records came to is what is there.
func (b *bench) restart(run int) {
	b.t.Helper()
	if !b.d.Up() {
		b.ok("Start", b.d.Start())
	}
	b.open(run)
	again(b.t, b.p, b.l, 1)
	b.reread()
}

// reread takes the tree's cells as they are.
func (b *bench) reread() {
	b.t.Helper()
	b.cells = map[string]string{}
	if !b.x.Born() {
		b.ok("Create", b.x.Create())
	}
	l, err := b.x.Scan("", "", 1<<20)
	b.ok("Scan", err)
	for _, c := range l {
		b.cells[c.Key] = c.Val
	}
}

// wantFromRedo opens log and pages behind a loss: the records that last, done again from a
// place on, make the pages that all of them make.
func (b *bench) wantFromRedo(redo, run int) {
	b.t.Helper()
	b.ok("Start", b.d.Start())
	b.open(run)
	again(b.t, b.p, b.l, redo)
	b.wantRedone()
	if b.x.Born() && !b.x.Check() {
		b.t.Errorf("no tree: %s", look(b.p).wrong)
	}
}

// runScript goes on until the power goes: whether it did. Now and then it checks, as an
// engine does: it tells the record from which on all is to be done again behind the last
// check that went well.
func (b *bench) runScript(steps []api.Cell) (bool, int) {
	b.t.Helper()
	checked := 1
	if b.x.Create() != api.OK {
		return true, checked
	}
	for i, c := range steps {
		if err := b.turn(c); err != api.OK {
			wantErr(b.t, "a step", err, api.ErrDown)
			return true, checked
		}
		if i%7 == 6 {
			at := b.append(api.Rec{Kind: api.RecCheck})
			if b.l.Flush() != api.OK {
				return true, checked
			}
			checked = min(at, b.x.Redo())
			b.x.Mark(at)
		}
	}
	return false, checked
}

// A loss at each act of the disk: from Redo on, as the tree tells it when the power is
// gone, and from the place of the last check on.
func TestLossAtEachAct(t *testing.T) {
	t.Parallel()
	for _, frames := range []int{2, 5} {
		steps := script(71, 44, 16)
		for acts, lost := 0, true; lost; acts++ {
			for _, keep := range keeps() {
				for _, byCheck := range []bool{false, true} {
					b := newBench(t, frames, 16, 400)
					b.ok("Arm", b.d.Arm(acts, keep))
					var redo int
					if lost, redo = b.runScript(steps); !lost {
						break
					}
					if !byCheck {
						redo = b.x.Redo()
					}
					b.wantFromRedo(redo, 2)
					if t.Failed() {
						t.Fatalf("%d frames, a loss behind %d acts, keep %x, from %d on", frames, acts, keep, redo)
					}
				}
			}
			if !lost && acts < 100 {
				t.Errorf("%d frames: %d acts alone", frames, acts)
			}
		}
	}
}

// One loss behind the other: each time what lasts goes on, from the record of the check.
func TestManyLosses(t *testing.T) {
	t.Parallel()
	r := rand.New(rand.NewSource(8))
	for round := range 30 {
		frames := 2 + r.Intn(6)
		b := newBench(t, frames, 32, 1500)
		steps := script(int64(round), 600, 50)
		redo := 1
		for run := 2; run < 9; run++ {
			b.ok("Arm", b.d.Arm(r.Intn(150), r.Uint64()))
			redo = b.goOn(r, steps, redo)
			if b.d.Up() {
				b.d.Calm()
				b.ok("Crash", b.d.Crash(r.Uint64()))
			}
			b.wantFromRedo(redo, run)
			if t.Failed() {
				t.Fatalf("round %d, run %d, %d frames", round, run, frames)
			}
			b.reread()
		}
	}
}

// goOn does some steps, and checks now and then.
func (b *bench) goOn(r *rand.Rand, steps []api.Cell, redo int) int {
	if !b.x.Born() && b.x.Create() != api.OK {
		return redo
	}
	for range 60 {
		if b.turn(steps[r.Intn(len(steps))]) != api.OK || b.l.Left() < 5000 {
			return redo
		}
		if r.Intn(9) == 0 {
			at, err := b.l.Append(api.Rec{Kind: api.RecCheck})
			if err != api.OK || b.l.Flush() != api.OK {
				return redo
			}
			redo = min(at, b.x.Redo())
			b.x.Mark(at)
		}
	}
	return redo
}

// Records of pages that were never written are passed over, from any place on: no page
// is turned that did not stand in the log as a whole.
func TestFromAnyPlaceOn(t *testing.T) {
	b := newTree(t, 64, 32)
	for i, c := range script(81, 120, 40) {
		b.ok("turn", b.turn(c))
		if i%20 == 19 {
			b.x.Mark(b.append(api.Rec{Kind: api.RecCheck}))
		}
	}
	recs, places := b.l.Records()
	for i, from := range places {
		p := emptyPool(t, b.l, 64, b.pages)
		again(t, p, b.l, from)
		whole := map[int]bool{}
		for _, r := range recs[i:] {
			for _, image := range r.Images {
				whole[image.Page] = true
			}
		}
		want := versions(t, b.p)
		for id, got := range versions(t, p) {
			if whole[id] && got != want[id] || !whole[id] && got != (version{}) {
				t.Fatalf("page %d, from %d on: %q of %d", id, from, page.Cells(got.text), got.lsn)
			}
		}
	}
}

// Two trees of one pool, one behind the other: the second one covers what it turns.
func TestAnotherTree(t *testing.T) {
	b := newTree(t, 64, 32)
	for i, c := range script(91, 200, 40) {
		b.ok("turn", b.turn(c))
		if i%15 == 14 {
			b.x = tree.New(b.p, b.l)
			b.wantTree()
		}
	}
	b.wantRedone()
}

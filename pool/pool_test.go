package pool_test

import (
	"maps"
	"math"
	"math/rand"
	"slices"
	"testing"

	"gharry/api"
	"gharry/disk"
	"gharry/pool"
	"gharry/store"
	"gharry/wal"
)

const (
	all     = math.MaxUint64
	gen     = 3
	maxLsn  = 1<<48 - 1
	perPage = api.PageSectors + 1 // acts of the disk by which a page is saved
)

// sheet is a page as one record makes it, unlike that of every other page and record.
func sheet(id, lsn int) string {
	b := make([]byte, api.PageBytes)
	for i := range b {
		b[i] = byte(id*71 + lsn*13 + i)
	}
	copy(b, number(id)+number(lsn))
	return string(b)
}

func number(n int) string {
	var b []byte
	for i := range 8 {
		b = append(b, byte(n>>(8*i)))
	}
	return string(b)
}

// version is what a page was set to last.
type version struct {
	text string
	lsn  int
}

// bench is a pool with all that it stands on, and a plain record of what was set last.
type bench struct {
	t          *testing.T
	d          *disk.Disk
	l          *wal.Log
	s          *store.Store
	p          *pool.Pool
	logSectors int
	pages      int
	last       map[int]version
}

// newBench has its log from the first sector on, and its pages behind it.
func newBench(t *testing.T, frames, pages, logSectors int) *bench {
	t.Helper()
	b := &bench{t: t, logSectors: logSectors, pages: pages, last: map[int]version{}}
	b.d = newDisk(t, logSectors+pages*api.PageSectors)
	b.open(1)
	b.p = newPool(t, b.s, b.l, frames)
	return b
}

// open finds log and pages on the disk again, in a run.
func (b *bench) open(run int) {
	b.t.Helper()
	var err api.Errno
	if b.l, err = wal.Open(b.d, 0, b.logSectors, run); err != api.OK {
		b.t.Fatalf("wal.Open: error %d", err)
	}
	if b.s, err = store.New(b.d, b.logSectors, b.pages, gen); err != api.OK {
		b.t.Fatalf("store.New: error %d", err)
	}
}

func newDisk(t *testing.T, sectors int) *disk.Disk {
	t.Helper()
	d, err := disk.New(sectors)
	if err != api.OK {
		t.Fatalf("disk.New(%d): error %d", sectors, err)
	}
	return d
}

func newPool(t *testing.T, s *store.Store, l *wal.Log, frames int) *pool.Pool {
	t.Helper()
	p, err := pool.New(s, l, frames)
	if p == nil || err != api.OK {
		t.Fatalf("New of %d frames: error %d", frames, err)
	}
	return p
}

func wantErr(t *testing.T, what string, got, want api.Errno) {
	t.Helper()
	if got != want {
		t.Errorf("%s: error %d, want %d", what, got, want)
	}
}

// record appends one to the log, that does not last yet: its place.
func (b *bench) record() int {
	b.t.Helper()
	at, err := b.l.Append(api.Rec{Kind: api.RecCommit, Txn: 1, Prev: 1})
	if err != api.OK {
		b.t.Fatalf("wal: Append: error %d", err)
	}
	return at
}

func (b *bench) flushLog() {
	b.t.Helper()
	if err := b.l.Flush(); err != api.OK {
		b.t.Fatalf("wal: Flush: error %d", err)
	}
}

// set turns a page by a record, and notes it, if it went well.
func (b *bench) set(id, lsn int) api.Errno {
	err := b.p.Set(id, sheet(id, lsn), lsn)
	if err == api.OK {
		b.last[id] = version{sheet(id, lsn), lsn}
	}
	return err
}

// turn sets pages, each by a new record: its places.
func (b *bench) turn(ids ...int) []int {
	b.t.Helper()
	var places []int
	for _, id := range ids {
		at := b.record()
		if err := b.set(id, at); err != api.OK {
			b.t.Fatalf("Set(%d, .., %d): error %d", id, at, err)
		}
		places = append(places, at)
	}
	return places
}

func (b *bench) ask(ids ...int) {
	b.t.Helper()
	for _, id := range ids {
		b.wantGet(id)
	}
}

func (b *bench) pin(ids ...int) {
	b.t.Helper()
	for _, id := range ids {
		if err := b.p.Pin(id); err != api.OK {
			b.t.Fatalf("Pin(%d): error %d", id, err)
		}
	}
}

// wantGet asks for a page as it was set last: the empty text of the record 0, if it never was.
func (b *bench) wantGet(id int) {
	b.t.Helper()
	text, lsn, err := b.p.Get(id)
	if want := b.last[id]; text != want.text || lsn != want.lsn || err != api.OK {
		b.t.Errorf("Get(%d): %q, %d, error %d; want %q, %d", id, text, lsn, err, want.text, want.lsn)
	}
}

func (b *bench) wantNoGet(id int, want api.Errno) {
	b.t.Helper()
	if text, lsn, err := b.p.Get(id); text != "" || lsn != 0 || err != want {
		b.t.Errorf("Get(%d): %q, %d, error %d; want nothing, error %d", id, text, lsn, err, want)
	}
}

// wantTable asks for the dirty pages, rising, and for all that must go with them.
func (b *bench) wantTable(want ...api.Dirty) {
	b.t.Helper()
	if got := b.p.Table(); !slices.Equal(got, want) {
		b.t.Errorf("Table: %v, want %v", got, want)
	}
	redo, since := b.l.End(), map[int]int{}
	for _, d := range want {
		redo = min(redo, d.Rec)
		since[d.Page] = d.Rec
	}
	if got := b.p.Redo(); got != redo {
		b.t.Errorf("Redo: %d, want %d", got, redo)
	}
	for id := -1; id <= b.pages; id++ {
		if _, want := since[id]; b.p.Dirty(id) != want {
			b.t.Errorf("Dirty(%d): %v, want %v", id, !want, want)
		}
	}
}

func (b *bench) wantCounts(saved, taken int) {
	b.t.Helper()
	if s, n := b.p.Counts(); s != saved || n != taken {
		b.t.Errorf("Counts: %d, %d; want %d, %d", s, n, saved, taken)
	}
}

// wantOnDisk asks whether the disk has a page as it was set last, so that it lasts,
// and so does its record.
func (b *bench) wantOnDisk(id int) {
	b.t.Helper()
	want := b.last[id]
	text, lsn, err := b.s.Read(id)
	if text != want.text || lsn != want.lsn || err != api.OK {
		b.t.Errorf("page %d on the disk: %q, %d, error %d; want %q, %d", id, text, lsn, err, want.text, want.lsn)
	}
	if waiting := b.d.Waiting(); len(waiting) > 0 {
		b.t.Errorf("page %d: the sectors %v wait", id, waiting)
	}
	if b.l.Durable() <= lsn {
		b.t.Errorf("page %d is of the record %d: the log lasts to %d", id, lsn, b.l.Durable())
	}
}

func (b *bench) wantNotOnDisk(id int) {
	b.t.Helper()
	if b.s.Is(id, b.last[id].lsn) {
		b.t.Errorf("page %d is on the disk, of the record %d", id, b.last[id].lsn)
	}
}

// acts does a call: how many acts of the disk it was.
func (b *bench) acts(call func()) int {
	before := b.d.Acts()
	call()
	return b.d.Acts() - before
}

func (b *bench) wantActs(what string, want int, call func()) {
	b.t.Helper()
	if got := b.acts(call); got != want {
		b.t.Errorf("%s: %d acts of the disk, want %d", what, got, want)
	}
}

func (b *bench) crash(keep uint64) {
	b.t.Helper()
	if err := b.d.Crash(keep); err != api.OK {
		b.t.Fatalf("disk: Crash: error %d", err)
	}
}

func (b *bench) powerOn() {
	b.t.Helper()
	if err := b.d.Start(); err != api.OK {
		b.t.Fatalf("disk: Start: error %d", err)
	}
}

func (b *bench) arm(acts int, keep uint64) {
	b.t.Helper()
	if err := b.d.Arm(acts, keep); err != api.OK {
		b.t.Fatalf("disk: Arm: error %d", err)
	}
}

// inFrames are the pages that are in frames: while there is no power these alone are
// told. Each of them must be as it was set last.
func (b *bench) inFrames() []int {
	b.t.Helper()
	off := !b.d.Up()
	if !off {
		b.crash(0)
	}
	var ids []int
	for id := range b.pages {
		if _, _, err := b.p.Get(id); err != api.OK {
			b.wantNoGet(id, api.ErrDown)
			continue
		}
		b.wantGet(id)
		ids = append(ids, id)
	}
	if !off {
		b.powerOn()
	}
	return ids
}

func (b *bench) wantInFrames(want ...int) {
	b.t.Helper()
	if got := b.inFrames(); !slices.Equal(got, want) {
		b.t.Errorf("in frames: %v, want %v", got, want)
	}
}

// face is all that a pool tells of itself.
type face struct {
	table        []api.Dirty
	redo         int
	saved, taken int
	in           []int
}

func (b *bench) face() face {
	b.t.Helper()
	f := face{table: b.p.Table(), redo: b.p.Redo(), in: b.inFrames()}
	f.saved, f.taken = b.p.Counts()
	return f
}

func (f face) is(g face) bool {
	return slices.Equal(f.table, g.table) && f.redo == g.redo && f.saved == g.saved && f.taken == g.taken && slices.Equal(f.in, g.in)
}

// wantUnturned does a call that must leave all as it was: the pool, the log, the disk.
func (b *bench) wantUnturned(what string, call func()) {
	b.t.Helper()
	before, end, durable, acts := b.face(), b.l.End(), b.l.Durable(), b.d.Acts()
	call()
	if after := b.face(); !after.is(before) {
		b.t.Errorf("%s: %+v, was %+v", what, after, before)
	}
	if b.l.End() != end || b.l.Durable() != durable || b.d.Acts() != acts {
		b.t.Errorf("%s: the log lasts to %d of %d (was %d of %d), %d acts more", what, b.l.Durable(), b.l.End(), durable, end, b.d.Acts()-acts)
	}
}

// asking are the calls that take a page.
func asking() map[string]func(b *bench, id int) api.Errno {
	return map[string]func(b *bench, id int) api.Errno{
		"Get": func(b *bench, id int) api.Errno { _, _, err := b.p.Get(id); return err },
		"Set": func(b *bench, id int) api.Errno { return b.set(id, 1) },
		"Pin": func(b *bench, id int) api.Errno { return b.p.Pin(id) },
	}
}

// Promise 10.1.

func TestLimits(t *testing.T) {
	if pool.Least != 2 || pool.Most != 64 {
		t.Errorf("Least %d, Most %d; want 2, 64", pool.Least, pool.Most)
	}
}

func TestNew(t *testing.T) {
	for frames := pool.Least; frames <= pool.Most; frames++ {
		for _, pages := range []int{1, 10, api.MaxPages} {
			b := newBench(t, frames, pages, 4)
			if got := b.p.Pages(); got != pages {
				t.Errorf("Pages: %d, want %d", got, pages)
			}
			b.wantTable()
			b.wantCounts(0, 0)
			b.wantInFrames()
			if waiting := b.d.Waiting(); len(waiting) > 0 {
				t.Errorf("the sectors %v wait", waiting)
			}
		}
	}
}

func TestNewDoesNothingToTheDisk(t *testing.T) {
	b := newBench(t, 2, 3, 4)
	b.wantActs("New", 0, func() { newPool(t, b.s, b.l, 9) })
}

func TestNewRefuses(t *testing.T) {
	b := newBench(t, 2, 3, 4)
	refuse := func(s *store.Store, l *wal.Log, frames int) {
		t.Helper()
		if p, err := pool.New(s, l, frames); p != nil || err != api.ErrArg {
			t.Errorf("New(%v, %v, %d): %v, error %d", s != nil, l != nil, frames, p, err)
		}
	}
	for _, frames := range []int{2, 8, 64} {
		refuse(nil, b.l, frames)
		refuse(b.s, nil, frames)
		refuse(nil, nil, frames)
	}
	for _, frames := range []int{math.MinInt, -64, -2, -1, 0, 1, 65, 66, 128, math.MaxInt} {
		refuse(b.s, b.l, frames)
		refuse(nil, nil, frames)
	}
}

// A store that nobody made has no pages: none of them is there.
func TestStoreThatNobodyMade(t *testing.T) {
	b := newBench(t, 2, 3, 4)
	b.p = newPool(t, &store.Store{}, b.l, 2)
	if got := b.p.Pages(); got != 0 {
		t.Errorf("Pages: %d, want 0", got)
	}
	for name, call := range asking() {
		wantErr(t, name, call(b, 0), api.ErrRange)
	}
	b.wantTable()
	b.wantCounts(0, 0)
}

// A log that nobody made errs when a page is to be saved: nothing is written then.
func TestLogThatNobodyMade(t *testing.T) {
	b := newBench(t, 2, 4, 4)
	b.l = &wal.Log{}
	b.p = newPool(t, b.s, b.l, 2)
	wantErr(t, "Set", b.set(0, 1), api.OK)
	wantErr(t, "Set", b.set(1, 1), api.OK)
	b.wantUnturned("saving", func() {
		wantErr(t, "Flush", b.p.Flush(0), api.ErrState)
		wantErr(t, "FlushAll", b.p.FlushAll(), api.ErrState)
		for name, call := range asking() {
			wantErr(t, name, call(b, 2), api.ErrState)
		}
	})
	if got := b.p.Redo(); got != 0 {
		t.Errorf("Redo: %d, want 0", got)
	}
}

// The document's example.
func TestExample(t *testing.T) {
	b := newBench(t, 2, 10, 40)
	b.turn(0, 1, 2)
	first, second := b.s.Is(0, b.last[0].lsn), b.s.Is(1, b.last[1].lsn)
	if first == second {
		t.Errorf("on the disk: page 0 %v, page 1 %v; want one of them", first, second)
	}
	if !b.p.Dirty(2) || len(b.p.Table()) != 2 {
		t.Errorf("dirty: %v", b.p.Table())
	}
	b.wantNotOnDisk(2)
	b.wantCounts(1, 3)
}

func TestGetOfWhatTheDiskHas(t *testing.T) {
	b := newBench(t, 2, 8, 4)
	for _, id := range []int{0, 3, 7} {
		for _, lsn := range []int{0, 1, 77, maxLsn} {
			wantErr(t, "store: Write", b.s.Write(id, sheet(id, lsn), lsn), api.OK)
			b.p = newPool(t, b.s, b.l, 2)
			b.last[id] = version{sheet(id, lsn), lsn}
			b.wantActs("Get", 0, func() { b.wantGet(id) })
			b.wantCounts(0, 1)
			b.wantTable()
		}
	}
}

func TestGetOfWhatWasNotWritten(t *testing.T) {
	b := newBench(t, 2, 8, 4)
	other, err := store.New(b.d, b.logSectors, b.pages, gen+1)
	wantErr(t, "store.New", err, api.OK)
	wantErr(t, "store: Write", other.Write(5, sheet(5, 9), 9), api.OK)
	b.wantActs("Get", 0, func() {
		for id := range b.pages {
			b.wantGet(id)
		}
	})
	b.wantCounts(0, 8)
	b.wantTable()
}

func TestGetOfWhatIsTorn(t *testing.T) {
	for keep := range uint64(1 << api.PageSectors) {
		b := newBench(t, 2, 8, 4)
		wantErr(t, "store: Write", b.s.Write(5, sheet(5, 9), 9), api.OK)
		wantErr(t, "store: Sync", b.s.Sync(), api.OK)
		wantErr(t, "store: Write", b.s.Write(5, sheet(5, 12), 12), api.OK)
		b.crash(keep)
		b.powerOn()
		switch keep {
		case 0:
			b.last[5] = version{sheet(5, 9), 9}
		case 15:
			b.last[5] = version{sheet(5, 12), 12}
		}
		b.wantGet(5)
		b.wantGet(5)
		b.wantCounts(0, 1)
		b.wantTable()
	}
}

// A page that was empty is set, saved, and taken again.
func TestTornPageIsSetAnew(t *testing.T) {
	b := newBench(t, 2, 8, 4)
	wantErr(t, "store: Write", b.s.Write(5, sheet(5, 9), 9), api.OK)
	b.crash(3)
	b.powerOn()
	b.wantGet(5)
	at := b.turn(5)
	b.wantTable(api.Dirty{Page: 5, Rec: at[0]})
	wantErr(t, "Flush", b.p.Flush(5), api.OK)
	b.wantOnDisk(5)
	b.ask(0, 1, 5)
	b.wantCounts(1, 4)
}

// A frame without a page has not page 0.
func TestNoFrameHasAPageAtFirst(t *testing.T) {
	b := newBench(t, 64, 10, 4)
	for id := -1; id <= b.pages; id++ {
		if b.p.Dirty(id) {
			t.Errorf("Dirty(%d)", id)
		}
		wantErr(t, "Unpin", b.p.Unpin(id), api.ErrNone)
		wantErr(t, "Flush", b.p.Flush(id), api.ErrNone)
	}
	b.wantInFrames()
	b.wantGet(0)
	b.wantInFrames(0)
	b.wantCounts(0, 1)
}

func TestSet(t *testing.T) {
	b := newBench(t, 3, 10, 40)
	at := b.turn(4)
	b.wantTable(api.Dirty{Page: 4, Rec: at[0]})
	b.wantActs("Set", 0, func() { at = append(at, b.turn(9, 0)...) })
	b.wantTable(api.Dirty{Page: 0, Rec: at[2]}, api.Dirty{Page: 4, Rec: at[0]}, api.Dirty{Page: 9, Rec: at[1]})
	b.ask(4, 9, 0)
	b.wantCounts(0, 3)
	for _, id := range []int{0, 4, 9} {
		b.wantNotOnDisk(id)
	}
}

// The same text makes a page dirty, too: it is of another record.
func TestSetTheSameText(t *testing.T) {
	b := newBench(t, 2, 4, 40)
	at := b.turn(2)
	wantErr(t, "FlushAll", b.p.FlushAll(), api.OK)
	for _, lsn := range []int{b.record(), at[0]} {
		text := b.last[2].text
		wantErr(t, "Set", b.p.Set(2, text, lsn), api.OK)
		b.last[2] = version{text, lsn}
		b.wantTable(api.Dirty{Page: 2, Rec: lsn})
		b.wantGet(2)
		wantErr(t, "Flush", b.p.Flush(2), api.OK)
		b.wantOnDisk(2)
	}
}

// A page is dirty since the first record by which it became so, whichever came later.
func TestSetTwice(t *testing.T) {
	b := newBench(t, 2, 4, 40)
	first, second, third := b.record(), b.record(), b.record()
	for _, lsn := range []int{second, third, first, second} {
		wantErr(t, "Set", b.set(1, lsn), api.OK)
		b.wantGet(1)
		b.wantTable(api.Dirty{Page: 1, Rec: second})
	}
	b.wantCounts(0, 1)
}

func TestSetBehindSaving(t *testing.T) {
	b := newBench(t, 2, 4, 40)
	b.turn(1, 1)
	wantErr(t, "Flush", b.p.Flush(1), api.OK)
	b.wantTable()
	at := b.turn(1, 1)
	b.wantTable(api.Dirty{Page: 1, Rec: at[0]})
	wantErr(t, "FlushAll", b.p.FlushAll(), api.OK)
	b.wantTable()
	at = b.turn(1, 1, 1)
	b.wantTable(api.Dirty{Page: 1, Rec: at[0]})
	b.ask(2, 3)
	b.wantTable()
	b.wantOnDisk(1)
	at = b.turn(1)
	b.wantTable(api.Dirty{Page: 1, Rec: at[0]})
	b.wantCounts(3, 4)
}

func TestSetRefuses(t *testing.T) {
	b := newBench(t, 2, 4, 40)
	b.turn(1)
	long := sheet(1, 1) + sheet(1, 2)
	b.wantUnturned("Set", func() {
		for _, id := range []int{-1, 0, 1, 2, 4} {
			for _, many := range []int{0, 1, 223, 225, 448} {
				for _, lsn := range []int{math.MinInt, -1, 0, 1, 5} {
					wantErr(t, "Set of so many bytes", b.p.Set(id, long[:many], lsn), api.ErrForm)
				}
			}
			for _, lsn := range []int{math.MinInt, -1, 0} {
				wantErr(t, "Set by no record", b.p.Set(id, sheet(1, 1), lsn), api.ErrArg)
			}
		}
	})
}

// What the store has no room for is refused when it is saved: the page stays.
func TestSetOfAGreatRecord(t *testing.T) {
	b := newBench(t, 2, 4, 40)
	wantErr(t, "Set", b.set(1, maxLsn), api.OK)
	wantErr(t, "Flush", b.p.Flush(1), api.OK)
	if !b.s.Is(1, maxLsn) {
		t.Errorf("page 1 is not on the disk")
	}
	for _, lsn := range []int{maxLsn + 1, math.MaxInt} {
		wantErr(t, "Set", b.set(1, lsn), api.OK)
		b.pin(2)
		b.wantUnturned("Flush", func() {
			wantErr(t, "Flush", b.p.Flush(1), api.ErrRange)
			wantErr(t, "FlushAll", b.p.FlushAll(), api.ErrRange)
			for name, call := range asking() {
				wantErr(t, name, call(b, 0), api.ErrRange)
			}
		})
	}
	b.turn(1)
	wantErr(t, "Flush", b.p.Flush(1), api.OK)
	b.wantOnDisk(1)
}

func TestNoSuchPage(t *testing.T) {
	for _, pages := range []int{1, 2, 10, api.MaxPages} {
		b := newBench(t, 2, pages, 4)
		b.turn(0)
		b.wantUnturned("no such page", func() {
			for _, id := range []int{math.MinInt, -2, -1, pages, pages + 1, math.MaxInt} {
				for name, call := range asking() {
					wantErr(t, name, call(b, id), api.ErrRange)
				}
				b.wantNoGet(id, api.ErrRange)
				wantErr(t, "Unpin", b.p.Unpin(id), api.ErrNone)
				wantErr(t, "Flush", b.p.Flush(id), api.ErrNone)
			}
		})
		b.turn(pages - 1)
		wantErr(t, "Flush", b.p.Flush(0), api.OK)
		wantErr(t, "Flush", b.p.Flush(pages-1), api.OK)
		b.wantOnDisk(0)
		b.wantOnDisk(pages - 1)
	}
}

// As long as there is room nothing is written; for one page more one is.
func TestAsManyPagesAsFrames(t *testing.T) {
	for _, frames := range []int{2, 3, 5, 63, 64} {
		b := newBench(t, frames, frames+1, 200)
		var want []api.Dirty
		b.wantActs("Set", 0, func() {
			for id := range frames {
				want = append(want, api.Dirty{Page: id, Rec: b.turn(id)[0]})
				b.wantTable(want...)
			}
			for id := range frames {
				b.wantGet(id)
			}
		})
		b.wantCounts(0, frames)
		before := b.face()
		at := b.turn(frames)
		after := b.face()
		b.wantCounts(1, frames+1)
		if len(after.in) != frames || len(after.table) != frames || !slices.Contains(after.table, api.Dirty{Page: frames, Rec: at[0]}) {
			t.Errorf("%d frames: %+v behind one page more", frames, after)
		}
		for _, id := range before.in {
			if slices.Contains(after.in, id) {
				b.wantNotOnDisk(id)
			} else {
				b.wantOnDisk(id)
			}
		}
	}
}

// What is not dirty is not written when its room is needed.
func TestRoomOfACleanPage(t *testing.T) {
	b := newBench(t, 2, 6, 40)
	b.turn(0, 1)
	wantErr(t, "FlushAll", b.p.FlushAll(), api.OK)
	b.wantActs("Get", 0, func() { b.ask(2, 3, 4, 5, 0, 1, 2) })
	b.wantCounts(2, 9)
}

// The calls that take a page, at a page that is in a frame: it is not taken once more.
func TestAskedForAgain(t *testing.T) {
	for name, call := range asking() {
		b := newBench(t, 2, 6, 40)
		b.turn(3, 4)
		b.crash(0)
		for range 3 {
			wantErr(t, name, call(b, 3), api.OK)
			wantErr(t, name, call(b, 4), api.OK)
		}
		b.wantCounts(0, 2)
		b.wantGet(3)
		b.wantGet(4)
	}
}

// Which error comes first: there is no such page, the disk can't be read, no frame is free.
func TestOrderOfErrors(t *testing.T) {
	for name, call := range asking() {
		b := newBench(t, 2, 6, 40)
		b.turn(0, 1)
		b.pin(0, 1)
		b.wantUnturned(name, func() {
			wantErr(t, name+" with all pinned", call(b, -1), api.ErrRange)
			wantErr(t, name+" with all pinned", call(b, 6), api.ErrRange)
			wantErr(t, name+" with all pinned", call(b, 2), api.ErrFull)
			wantErr(t, "Set of a short text", b.p.Set(2, "x", 1), api.ErrForm)
			wantErr(t, "Set by no record", b.p.Set(2, sheet(1, 1), 0), api.ErrArg)
		})
		b.crash(0)
		b.wantUnturned(name, func() {
			wantErr(t, name+" without power", call(b, -1), api.ErrRange)
			wantErr(t, name+" without power", call(b, 6), api.ErrRange)
			wantErr(t, name+" without power", call(b, 2), api.ErrDown)
			wantErr(t, "Set of a short text", b.p.Set(2, "x", 1), api.ErrForm)
			wantErr(t, "Set by no record", b.p.Set(2, sheet(1, 1), 0), api.ErrArg)
		})
	}
}

// Promise 10.2.

func TestAllFramesPinned(t *testing.T) {
	for _, frames := range []int{2, 3, 64} {
		b := newBench(t, frames, frames+2, 200)
		for id := range frames {
			b.pin(id)
		}
		b.turn(1)
		b.wantUnturned("all are pinned", func() {
			for name, call := range asking() {
				wantErr(t, name, call(b, frames), api.ErrFull)
				wantErr(t, name, call(b, frames+1), api.ErrFull)
			}
			b.wantNoGet(frames, api.ErrFull)
		})
		for id := range frames {
			b.wantGet(id)
		}
		b.turn(0, frames-1)
		b.pin(0)
		wantErr(t, "Unpin", b.p.Unpin(0), api.OK)
		wantErr(t, "Get", asking()["Get"](b, frames), api.ErrFull)
		wantErr(t, "Unpin", b.p.Unpin(0), api.OK)
		b.wantGet(frames)
		var in []int
		for id := 1; id <= frames; id++ {
			in = append(in, id)
		}
		b.wantInFrames(in...)
		b.wantOnDisk(0)
	}
}

// The only frame that is not pinned is picked, wherever it is.
func TestOneFrameIsNotPinned(t *testing.T) {
	for _, frames := range []int{2, 3, 7, 64} {
		for free := range frames {
			b := newBench(t, frames, frames+3, 200)
			for id := range frames {
				b.ask(id)
			}
			in := []int{frames + 2}
			for id := frames - 1; id >= 0; id-- {
				if id != free {
					b.pin(id)
					in = append(in, id)
				}
			}
			b.ask(frames, frames+1, frames+2)
			slices.Sort(in)
			b.wantInFrames(in...)
		}
	}
}

// What is pinned, and dirty, stays so, whatever else is asked for.
func TestPinnedAndDirty(t *testing.T) {
	b := newBench(t, 3, 20, 60)
	at := b.turn(5)
	b.pin(5)
	for id := range b.pages {
		if id != 5 {
			b.turn(id)
		}
		if !slices.Contains(b.p.Table(), api.Dirty{Page: 5, Rec: at[0]}) {
			t.Errorf("behind Set(%d): %v", id, b.p.Table())
		}
	}
	b.wantNotOnDisk(5)
	wantErr(t, "Flush", b.p.Flush(5), api.OK)
	b.wantOnDisk(5)
	if b.p.Dirty(5) {
		t.Errorf("page 5 is dirty behind Flush")
	}
}

func TestPinOfWhatIsInNoFrame(t *testing.T) {
	b := newBench(t, 2, 4, 40)
	b.pin(3)
	b.wantCounts(0, 1)
	b.wantInFrames(3)
	b.wantTable()
	b.wantGet(3)
	b.wantCounts(0, 1)
}

func TestUnpinRefuses(t *testing.T) {
	b := newBench(t, 2, 5, 40)
	b.turn(1)
	b.ask(2)
	b.wantUnturned("Unpin", func() {
		for id := -1; id <= b.pages; id++ {
			wantErr(t, "Unpin", b.p.Unpin(id), api.ErrNone)
		}
	})
	for pins := 1; pins < 4; pins++ {
		for range pins {
			b.pin(1)
		}
		for range pins {
			wantErr(t, "Unpin", b.p.Unpin(1), api.OK)
		}
		wantErr(t, "Unpin once more", b.p.Unpin(1), api.ErrNone)
	}
	wantErr(t, "Unpin of another", b.p.Unpin(2), api.ErrNone)
	b.ask(3, 4)
	wantErr(t, "Unpin of what went", b.p.Unpin(1), api.ErrNone)
	wantErr(t, "Flush of what went", b.p.Flush(1), api.ErrNone)
}

// Pins keep their page alone, and a frame's next page has none of them.
func TestPinsGoWithThePage(t *testing.T) {
	b := newBench(t, 2, 6, 40)
	b.pin(0, 0, 1)
	wantErr(t, "Unpin", b.p.Unpin(1), api.OK)
	b.turn(2)
	b.wantInFrames(0, 2)
	wantErr(t, "Unpin", b.p.Unpin(2), api.ErrNone)
	b.ask(1)
	wantErr(t, "Unpin", b.p.Unpin(1), api.ErrNone)
	b.wantTable()
	wantErr(t, "Unpin", b.p.Unpin(0), api.OK)
	b.ask(3, 4, 5)
	if in := b.inFrames(); !slices.Contains(in, 0) {
		t.Errorf("page 0 was pinned twice, and unpinned once: in frames %v", in)
	}
	wantErr(t, "Unpin", b.p.Unpin(0), api.OK)
	b.ask(2, 3, 4, 5)
	if in := b.inFrames(); slices.Contains(in, 0) {
		t.Errorf("page 0 is not pinned any more: in frames %v", in)
	}
}

// The record does not last yet: the log's sector is written and synced ahead.
func TestFlush(t *testing.T) {
	b := newBench(t, 3, 6, 40)
	at := b.turn(2, 4, 5)
	b.wantActs("Flush", 2+perPage, func() { wantErr(t, "Flush", b.p.Flush(4), api.OK) })
	b.wantOnDisk(4)
	b.wantNotOnDisk(2)
	b.wantNotOnDisk(5)
	b.wantTable(api.Dirty{Page: 2, Rec: at[0]}, api.Dirty{Page: 5, Rec: at[2]})
	b.wantCounts(1, 3)
	b.wantInFrames(2, 4, 5)
	b.wantActs("Flush of what is not dirty", 0, func() { wantErr(t, "Flush", b.p.Flush(4), api.OK) })
	b.wantCounts(1, 3)
}

// What lasts is not flushed once more, nor what is behind it.
func TestFlushOfALastingRecord(t *testing.T) {
	b := newBench(t, 3, 6, 40)
	b.turn(2)
	b.flushLog()
	durable := b.l.Durable()
	b.turn(3)
	b.wantActs("Flush", perPage, func() { wantErr(t, "Flush", b.p.Flush(2), api.OK) })
	if b.l.Durable() != durable {
		t.Errorf("the log lasts to %d, want %d", b.l.Durable(), durable)
	}
	b.wantOnDisk(2)
	b.turn(2)
	wantErr(t, "Flush", b.p.Flush(2), api.OK)
	b.wantOnDisk(2)
	if b.l.Durable() != b.l.End() {
		t.Errorf("the log lasts to %d of %d", b.l.Durable(), b.l.End())
	}
}

// A page is saved by its last record's leave, not by that since which it is dirty.
func TestFlushNeedsTheLastRecord(t *testing.T) {
	b := newBench(t, 2, 4, 40)
	at := b.turn(1)
	b.flushLog()
	b.turn(1)
	b.wantTable(api.Dirty{Page: 1, Rec: at[0]})
	b.wantActs("Flush", 2+perPage, func() { wantErr(t, "Flush", b.p.Flush(1), api.OK) })
	b.wantOnDisk(1)
}

func TestFlushLeavesPins(t *testing.T) {
	b := newBench(t, 2, 4, 40)
	b.turn(0, 1)
	b.pin(0, 1)
	wantErr(t, "Flush", b.p.Flush(0), api.OK)
	wantErr(t, "FlushAll", b.p.FlushAll(), api.OK)
	b.wantTable()
	b.wantOnDisk(0)
	b.wantOnDisk(1)
	b.wantNoGet(2, api.ErrFull)
	wantErr(t, "Unpin", b.p.Unpin(0), api.OK)
	wantErr(t, "Unpin", b.p.Unpin(1), api.OK)
	b.wantCounts(2, 2)
}

func TestFlushAll(t *testing.T) {
	for _, frames := range []int{2, 3, 64} {
		b := newBench(t, frames, frames, 200)
		b.wantActs("FlushAll of none", 0, func() { wantErr(t, "FlushAll", b.p.FlushAll(), api.OK) })
		for id := frames - 1; id >= 0; id-- {
			b.turn(id)
		}
		b.pin(1)
		wantErr(t, "FlushAll", b.p.FlushAll(), api.OK)
		b.wantTable()
		b.wantCounts(frames, frames)
		for id := range frames {
			b.wantOnDisk(id)
		}
		b.wantActs("FlushAll again", 0, func() { wantErr(t, "FlushAll", b.p.FlushAll(), api.OK) })
		b.wantCounts(frames, frames)
		b.ask(0)
		b.turn(1)
		b.flushLog()
		b.wantActs("FlushAll of one", perPage, func() { wantErr(t, "FlushAll", b.p.FlushAll(), api.OK) })
		b.wantOnDisk(1)
		b.wantCounts(frames+1, frames)
	}
}

// The table rises by pages, in whichever order they were set, and is the asker's own.
func TestTable(t *testing.T) {
	r := rand.New(rand.NewSource(10))
	for range 20 {
		b := newBench(t, 64, 64, 200)
		var want []api.Dirty
		for _, id := range r.Perm(64)[:1+r.Intn(64)] {
			want = append(want, api.Dirty{Page: id, Rec: b.turn(id)[0]})
		}
		slices.SortFunc(want, func(x, y api.Dirty) int { return x.Page - y.Page })
		b.wantTable(want...)
		for _, l := range [][]api.Dirty{b.p.Table(), b.p.Table()} {
			clear(l)
		}
		b.wantTable(want...)
	}
}

func TestRedo(t *testing.T) {
	b := newBench(t, 3, 6, 40)
	for range 3 {
		b.record()
		b.wantTable()
	}
	at := b.turn(3, 1, 2)
	b.record()
	b.wantTable(api.Dirty{Page: 1, Rec: at[1]}, api.Dirty{Page: 2, Rec: at[2]}, api.Dirty{Page: 3, Rec: at[0]})
	for i, id := range []int{3, 1, 2} {
		if got := b.p.Redo(); got != at[i] {
			t.Errorf("Redo: %d, want %d", got, at[i])
		}
		wantErr(t, "Flush", b.p.Flush(id), api.OK)
	}
	b.wantTable()
	b.record()
	b.wantTable()
}

// A record that is not in the log: its end is the least then.
func TestRedoOfWhatIsNotInTheLog(t *testing.T) {
	b := newBench(t, 2, 4, 40)
	b.record()
	end := b.l.End()
	wantErr(t, "Set", b.set(1, end+100), api.OK)
	b.wantTable(api.Dirty{Page: 1, Rec: end + 100})
	if got := b.p.Redo(); got != end {
		t.Errorf("Redo: %d, want the end, %d", got, end)
	}
	wantErr(t, "Set", b.set(2, 1), api.OK)
	b.wantTable(api.Dirty{Page: 1, Rec: end + 100}, api.Dirty{Page: 2, Rec: 1})
}

func TestWithoutPower(t *testing.T) {
	b := newBench(t, 3, 6, 40)
	b.turn(0, 1)
	b.ask(2)
	wantErr(t, "Flush", b.p.Flush(1), api.OK)
	b.crash(0)
	b.wantUnturned("without power", func() {
		for name, call := range asking() {
			wantErr(t, name+" of a page in no frame", call(b, 3), api.ErrDown)
		}
		b.wantNoGet(3, api.ErrDown)
		wantErr(t, "Flush of a page in no frame", b.p.Flush(3), api.ErrNone)
		wantErr(t, "Flush of one that is not dirty", b.p.Flush(1), api.OK)
		wantErr(t, "Flush of one that is not dirty", b.p.Flush(2), api.OK)
		wantErr(t, "Flush", b.p.Flush(0), api.ErrDown)
		wantErr(t, "FlushAll", b.p.FlushAll(), api.ErrDown)
		wantErr(t, "Unpin", b.p.Unpin(0), api.ErrNone)
	})
	b.pin(1)
	wantErr(t, "Unpin", b.p.Unpin(1), api.OK)
	wantErr(t, "Set of a page in a frame", b.set(2, 1), api.OK)
	b.wantGet(2)
	b.powerOn()
	wantErr(t, "FlushAll", b.p.FlushAll(), api.OK)
	for id := range 3 {
		b.wantOnDisk(id)
	}
}

func TestWithoutPowerNothingDirty(t *testing.T) {
	b := newBench(t, 2, 6, 40)
	b.turn(0)
	wantErr(t, "Flush", b.p.Flush(0), api.OK)
	b.crash(0)
	b.wantUnturned("FlushAll", func() { wantErr(t, "FlushAll", b.p.FlushAll(), api.OK) })
}

// Log and pages on disks of their own: the log's disk errs first, and then nothing is written.
func TestLogsDiskIsDown(t *testing.T) {
	b, own := newBench(t, 2, 6, 40), newDisk(t, 40)
	var err api.Errno
	b.l, err = wal.Open(own, 0, 40, 1)
	wantErr(t, "wal.Open", err, api.OK)
	b.p = newPool(t, b.s, b.l, 2)
	b.turn(0)
	b.flushLog()
	b.turn(1)
	wantErr(t, "Crash", own.Crash(0), api.OK)
	b.wantUnturned("saving", func() {
		wantErr(t, "Flush", b.p.Flush(1), api.ErrDown)
		wantErr(t, "FlushAll", b.p.FlushAll(), api.ErrDown)
	})
	wantErr(t, "Flush of what lasts", b.p.Flush(0), api.OK)
	b.wantOnDisk(0)
	b.pin(0)
	b.wantUnturned("taking", func() {
		for name, call := range asking() {
			wantErr(t, name, call(b, 3), api.ErrDown)
		}
	})
}

// The log goes first: it lasts, though the page can't be written.
func TestPagesDiskIsDown(t *testing.T) {
	b, own := newBench(t, 2, 6, 40), newDisk(t, 40)
	var err api.Errno
	b.l, err = wal.Open(own, 0, 40, 1)
	wantErr(t, "wal.Open", err, api.OK)
	b.p = newPool(t, b.s, b.l, 2)
	at := b.turn(0)
	b.crash(0)
	wantErr(t, "Flush", b.p.Flush(0), api.ErrDown)
	b.wantTable(api.Dirty{Page: 0, Rec: at[0]})
	b.wantCounts(0, 1)
	if b.l.Durable() <= at[0] {
		t.Errorf("the log lasts to %d", b.l.Durable())
	}
}

// Of a dead log what lasts already can be saved, and what does not is refused; with an
// error FlushAll leaves the one like the other.
func TestDeadLog(t *testing.T) {
	b := newBench(t, 3, 6, 40)
	b.turn(2)
	b.flushLog()
	b.turn(1, 3)
	b.arm(0, 0)
	wantErr(t, "wal: Flush", b.l.Flush(), api.ErrDown)
	b.powerOn()
	b.wantUnturned("the log is dead", func() {
		wantErr(t, "FlushAll", b.p.FlushAll(), api.ErrDown)
		wantErr(t, "Flush", b.p.Flush(1), api.ErrDown)
		wantErr(t, "Flush", b.p.Flush(3), api.ErrDown)
	})
	for id := range b.pages {
		if _, _, err := b.s.Read(id); err != api.ErrNone {
			t.Errorf("page %d is on the disk: error %d", id, err)
		}
	}
	wantErr(t, "Flush of what lasts", b.p.Flush(2), api.OK)
	b.wantOnDisk(2)
}

// Promise 10.3.

func TestPoolThatNewDidNotGive(t *testing.T) {
	for name, p := range map[string]*pool.Pool{"nil": nil, "nobody's": {}} {
		for _, id := range []int{-1, 0, 1, math.MaxInt} {
			if text, lsn, err := p.Get(id); text != "" || lsn != 0 || err != api.ErrState {
				t.Errorf("%s: Get: %q, %d, error %d", name, text, lsn, err)
			}
			wantErr(t, name+": Set", p.Set(id, sheet(0, 1), 1), api.ErrState)
			wantErr(t, name+": Set of a short text", p.Set(id, "", 1), api.ErrState)
			wantErr(t, name+": Set by no record", p.Set(id, sheet(0, 1), 0), api.ErrState)
			wantErr(t, name+": Pin", p.Pin(id), api.ErrState)
			wantErr(t, name+": Unpin", p.Unpin(id), api.ErrState)
			wantErr(t, name+": Flush", p.Flush(id), api.ErrState)
			if p.Dirty(id) {
				t.Errorf("%s: Dirty(%d)", name, id)
			}
		}
		wantErr(t, name+": FlushAll", p.FlushAll(), api.ErrState)
		if l := p.Table(); len(l) > 0 || p.Redo() != 0 || p.Pages() != 0 {
			t.Errorf("%s: Table %v, Redo %d, Pages %d", name, l, p.Redo(), p.Pages())
		}
		if saved, taken := p.Counts(); saved != 0 || taken != 0 {
			t.Errorf("%s: Counts %d, %d", name, saved, taken)
		}
	}
}

// Promise 10.4.

// step is a call, with what it is given: the record is that of a Set.
type step struct {
	call string
	id   int
	lsn  int
}

// randomStep is a call at one of the pages; a page is unpinned as often as pinned. Its
// record stands in the log, and does not last yet.
func (b *bench) randomStep(r *rand.Rand) step {
	b.t.Helper()
	calls := []string{"Get", "Get", "Get", "Set", "Set", "Set", "Set", "Pin", "Unpin", "Unpin", "Flush", "FlushAll"}
	s := step{call: calls[r.Intn(len(calls))], id: r.Intn(b.pages)}
	if s.call == "Set" {
		s.lsn = b.record()
	}
	return s
}

func (b *bench) do(s step) api.Errno {
	switch s.call {
	case "Get":
		_, _, err := b.p.Get(s.id)
		return err
	case "Set":
		return b.set(s.id, s.lsn)
	case "Pin":
		return b.p.Pin(s.id)
	case "Unpin":
		return b.p.Unpin(s.id)
	case "Flush":
		return b.p.Flush(s.id)
	}
	return b.p.FlushAll()
}

// model follows a pool by what the document says; which frame was picked it looks up.
type model struct {
	frames int
	pins   map[int]int
	since  map[int]int
	in     []int
	saved  int
	taken  int
}

func (m *model) isIn(id int) bool { return slices.Contains(m.in, id) }

// wantOf is the error that a step must tell.
func (m *model) wantOf(s step) api.Errno {
	switch s.call {
	case "Get", "Set", "Pin":
		if !m.isIn(s.id) && len(m.pins) == m.frames {
			return api.ErrFull
		}
	case "Unpin":
		if m.pins[s.id] == 0 {
			return api.ErrNone
		}
	case "Flush":
		if !m.isIn(s.id) {
			return api.ErrNone
		}
	}
	return api.OK
}

func (m *model) save(b *bench, id int) {
	b.t.Helper()
	if _, dirty := m.since[id]; dirty {
		b.wantOnDisk(id)
		delete(m.since, id)
		m.saved++
	}
}

// take lets a page be in a frame, and the one go that is in none any more: only if there
// was need for room, and only if it was not pinned.
func (m *model) take(b *bench, id int) {
	b.t.Helper()
	if m.isIn(id) {
		return
	}
	now := b.inFrames()
	var went []int
	for _, old := range m.in {
		if !slices.Contains(now, old) {
			went = append(went, old)
		}
	}
	need := 0
	if len(m.in) == m.frames {
		need = 1
	}
	if len(went) != need || !slices.Contains(now, id) {
		b.t.Fatalf("page %d is taken: in frames were %v, are %v", id, m.in, now)
	}
	m.in = now
	m.taken++
	for _, old := range went {
		if m.pins[old] > 0 {
			b.t.Errorf("page %d went, and is pinned", old)
		}
		m.save(b, old)
	}
}

// done notes a step that went well.
func (m *model) done(b *bench, s step) {
	b.t.Helper()
	switch s.call {
	case "Get":
		m.take(b, s.id)
	case "Set":
		m.take(b, s.id)
		if _, dirty := m.since[s.id]; !dirty {
			m.since[s.id] = s.lsn
		}
	case "Pin":
		m.take(b, s.id)
		m.pins[s.id]++
	case "Unpin":
		if m.pins[s.id]--; m.pins[s.id] == 0 {
			delete(m.pins, s.id)
		}
	case "Flush":
		m.save(b, s.id)
	case "FlushAll":
		for _, id := range m.in {
			m.save(b, id)
		}
	}
}

func (m *model) want(b *bench) {
	b.t.Helper()
	var table []api.Dirty
	for _, id := range slices.Sorted(maps.Keys(m.since)) {
		table = append(table, api.Dirty{Page: id, Rec: m.since[id]})
		b.wantNotOnDisk(id)
	}
	b.wantTable(table...)
	b.wantCounts(m.saved, m.taken)
	b.wantInFrames(m.in...)
}

func TestRandomSteps(t *testing.T) {
	r := rand.New(rand.NewSource(1))
	for _, frames := range []int{2, 3, 5, 8, 64} {
		for _, pages := range []int{1, 2, 3, 9, 20, 80} {
			b := newBench(t, frames, pages, 400)
			m := &model{frames: frames, pins: map[int]int{}, since: map[int]int{}}
			for range 300 {
				s := b.randomStep(r)
				err := b.do(s)
				if want := m.wantOf(s); err != want {
					t.Fatalf("%d frames, %+v: error %d, want %d", frames, s, err, want)
				}
				if err == api.OK {
					m.done(b, s)
				}
				m.want(b)
				if t.Failed() {
					t.Fatalf("%d frames, %d pages, behind %+v", frames, pages, s)
				}
			}
			for id, pins := range m.pins {
				for range pins {
					wantErr(t, "Unpin", b.p.Unpin(id), api.OK)
				}
			}
			for id := range pages {
				b.wantGet(id)
			}
		}
	}
}

// Calls with an error change nothing: of two pools the one that is asked them, too, and
// loses its power within whatever it does, goes on as the other one.
func TestErrorsChangeNothing(t *testing.T) {
	r := rand.New(rand.NewSource(2))
	for _, frames := range []int{2, 3, 6} {
		x, y := newBench(t, frames, 9, 200), newBench(t, frames, 9, 200)
		losses := 0
		for range 400 {
			s := x.randomStep(r)
			if s.call == "Set" {
				y.record()
			}
			x.flushLog() // it would be dead behind a loss within its own writes
			y.flushLog()
			x.wrongCalls()
			x.arm(r.Intn(2*perPage), r.Uint64())
			err := x.do(s)
			x.d.Calm()
			if err == api.ErrDown {
				losses++
				x.powerOn()
				err = x.do(s)
			}
			wantErr(t, s.call, y.do(s), err)
			if fx, fy := x.face(), y.face(); !fx.is(fy) || t.Failed() {
				t.Fatalf("behind %+v: %+v, without errors %+v", s, fx, fy)
			}
		}
		if losses < 20 {
			t.Errorf("%d frames: %d losses of power alone", frames, losses)
		}
	}
}

func (b *bench) wrongCalls() {
	b.t.Helper()
	wantErr(b.t, "Flush of no page", b.p.Flush(b.pages), api.ErrNone)
	wantErr(b.t, "Unpin of no page", b.p.Unpin(-1), api.ErrNone)
	in := b.inFrames()
	b.crash(0)
	for id := range b.pages {
		wantErr(b.t, "Set of a short text", b.p.Set(id, "x", 1), api.ErrForm)
		wantErr(b.t, "Set by no record", b.p.Set(id, sheet(0, 1), 0), api.ErrArg)
		for name, call := range asking() {
			wantErr(b.t, name, call(b, b.pages+id), api.ErrRange)
			if !slices.Contains(in, id) {
				wantErr(b.t, name, call(b, id), api.ErrDown)
			}
		}
	}
	b.powerOn()
}

// keeps are choices of the sectors that last when the power goes: some alone, all but
// some, those behind the first ones.
func keeps() []uint64 {
	l := []uint64{all, 0x5555, 0xaaaa, 0x3c, 0xc3}
	for k := range 16 {
		l = append(l, uint64(k), 1<<k, all<<k, ^uint64(1<<k))
	}
	return l
}

// wantNothingAhead opens log and pages again: no page on the disk is of a record that
// does not last, and each is as some Set made it; what was not dirty is as it was set last.
func (b *bench) wantNothingAhead(dirty []api.Dirty, run int) {
	b.t.Helper()
	b.open(run)
	ahead := map[int]int{}
	for _, d := range dirty {
		ahead[d.Page] = d.Rec
	}
	for id := range b.pages {
		text, lsn, err := b.s.Read(id)
		if _, is := ahead[id]; !is && (version{text, lsn}) != b.last[id] {
			b.t.Errorf("page %d was not dirty: %q, %d, error %d; want the record %d", id, text, lsn, err, b.last[id].lsn)
		}
		if err == api.OK && (text != sheet(id, lsn) || !b.l.Bound(lsn) || lsn >= b.l.Durable()) {
			b.t.Errorf("page %d is of the record %d: the log lasts to %d; %q", id, lsn, b.l.Durable(), text)
		}
		b.last[id] = version{text, lsn}
	}
}

// scenes are what may be ahead of a call in which the power goes: two frames, whose
// pages are 0 and 1, both dirty.
func scenes() map[string]func(b *bench) {
	return map[string]func(b *bench){
		"in the log": func(b *bench) { b.turn(0, 1) },
		"one lasts":  func(b *bench) { b.turn(0); b.flushLog(); b.turn(1) },
		"both last":  func(b *bench) { b.turn(0, 1); b.flushLog() },
		"set anew": func(b *bench) {
			b.turn(0, 1, 2, 3)
			b.ask(0, 1)
			b.turn(1, 0, 1)
		},
		"behind many records": func(b *bench) {
			b.turn(1)
			for range 12 {
				b.record()
			}
			b.turn(0)
			b.record()
		},
	}
}

// savers are calls that save a page, or two.
func savers() []step {
	return []step{{"Get", 5, 0}, {"Set", 5, 1}, {"Pin", 5, 0}, {"Flush", 0, 0}, {"Flush", 1, 0}, {"FlushAll", 0, 0}}
}

// loss does a call in which the power goes, behind so many acts: whether it did. With
// the error the pool is as it was.
func loss(t *testing.T, scene string, s step, acts int, keep uint64) (*bench, bool) {
	t.Helper()
	b := newBench(t, 2, 6, 12)
	scenes()[scene](b)
	before := b.face()
	b.arm(acts, keep)
	err := b.do(s)
	if b.d.Up() {
		wantErr(t, s.call, err, api.OK)
		return b, false
	}
	wantErr(t, s.call, err, api.ErrDown)
	if after := b.face(); !after.is(before) {
		t.Errorf("%+v, was %+v", after, before)
	}
	return b, true
}

// eachLoss goes through all losses within all calls that save.
func eachLoss(t *testing.T, then func(b *bench)) {
	for scene := range scenes() {
		for _, s := range savers() {
			acts, lost := 0, true
			for ; lost; acts++ {
				for _, keep := range keeps() {
					var b *bench
					if b, lost = loss(t, scene, s, acts, keep); !lost {
						break
					}
					then(b)
					if t.Failed() {
						t.Fatalf("%s: %+v: a loss behind %d acts, keep %x", scene, s, acts, keep)
					}
				}
			}
			if acts <= perPage {
				t.Errorf("%s: %+v: %d losses alone", scene, s, acts)
			}
		}
	}
}

func TestLossWithinEachCall(t *testing.T) {
	eachLoss(t, func(b *bench) {
		dirty := b.p.Table()
		b.powerOn()
		b.wantNothingAhead(dirty, 2)
	})
}

// A pool whose disk has power again goes on: all pages are as they were set; if the log
// is dead, what does not last stays in its frame, and nothing else can be told of it.
func TestGoingOnBehindALoss(t *testing.T) {
	eachLoss(t, func(b *bench) {
		b.powerOn()
		if b.l.Flush() != api.OK {
			for id := range b.pages {
				if slices.Contains(b.inFrames(), id) {
					b.wantGet(id)
				}
			}
			return
		}
		for id := range b.pages {
			b.wantGet(id)
		}
		wantErr(b.t, "FlushAll", b.p.FlushAll(), api.OK)
		for id, v := range b.last {
			if v.lsn > 0 {
				b.wantOnDisk(id)
			}
		}
	})
}

// One loss behind the other, at any time: each time a new pool goes on with what the
// disk has.
func TestRandomLosses(t *testing.T) {
	r := rand.New(rand.NewSource(3))
	for range 40 {
		frames := 2 + r.Intn(4)
		b := newBench(t, frames, 2+r.Intn(10), 60)
		for run := 2; run < 12; run++ {
			b.arm(r.Intn(60), r.Uint64())
			var err api.Errno
			for range 80 {
				if err = b.do(b.randomStep(r)); err == api.ErrDown || b.l.Left() < 100 {
					break
				}
			}
			dirty := b.p.Table()
			if b.d.Up() {
				b.d.Calm()
				b.crash(r.Uint64())
			}
			b.powerOn()
			b.wantNothingAhead(dirty, run)
			b.p = newPool(t, b.s, b.l, frames)
			for id := range b.pages {
				b.wantGet(id)
			}
			if t.Failed() {
				t.Fatalf("%d frames, run %d", frames, run)
			}
		}
	}
}

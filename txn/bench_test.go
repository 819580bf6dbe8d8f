package txn_test

import (
	"slices"
	"strings"
	"testing"

	"gharry/api"
	"gharry/disk"
	"gharry/lock"
	"gharry/pool"
	"gharry/store"
	"gharry/tree"
	"gharry/txn"
	"gharry/wal"
)

const (
	gen       = 2
	plentyLog = 6000 // sectors
	high      = 100  // the first transaction is 101
)

// bench is a manager with all that it stands on.
type bench struct {
	t          testing.TB
	frames     int
	pages      int
	logSectors int
	d          *disk.Disk
	l          *wal.Log
	p          *pool.Pool
	x          *tree.Tree
	m          *txn.Manager
}

// bare has its log from the first sector on, and its pages behind it. There is no tree yet.
func bare(t testing.TB, frames, pages, logSectors int) *bench {
	t.Helper()
	b := &bench{t: t, frames: frames, pages: pages, logSectors: logSectors}
	var err api.Errno
	b.d, err = disk.New(logSectors + pages*api.PageSectors)
	b.ok("disk.New", err)
	b.open(1)
	return b
}

// newBench is one with an empty tree.
func newBench(t testing.TB, frames, pages, logSectors int) *bench {
	t.Helper()
	b := bare(t, frames, pages, logSectors)
	b.ok("Create", b.x.Create())
	return b
}

// plenty is a bench with room for whatever is done.
func plenty(t testing.TB) *bench {
	t.Helper()
	return newBench(t, 16, 200, plentyLog)
}

// open finds log and pages on the disk again, in a run; of what was in memory nothing is left.
func (b *bench) open(run int) {
	b.t.Helper()
	var err api.Errno
	b.l, err = wal.Open(b.d, 0, b.logSectors, run)
	b.ok("wal.Open", err)
	s, err := store.New(b.d, b.logSectors, b.pages, gen)
	b.ok("store.New", err)
	b.p, err = pool.New(s, b.l, b.frames)
	b.ok("pool.New", err)
	b.x = tree.New(b.p, b.l)
	b.m = txn.New(b.x, b.l, high)
}

func (b *bench) ok(what string, err api.Errno) {
	b.t.Helper()
	if err != api.OK {
		b.t.Fatalf("%s: error %d", what, err)
	}
}

func wantErr(t testing.TB, what string, got, want api.Errno) {
	t.Helper()
	if got != want {
		t.Errorf("%s: error %d, want %d", what, got, want)
	}
}

func (b *bench) begin() int {
	b.t.Helper()
	id, err := b.m.Begin()
	b.ok("Begin", err)
	return id
}

func (b *bench) put(id int, key, val string) {
	b.t.Helper()
	_, err := b.m.Put(id, key, val)
	b.ok("Put "+key, err)
}

func (b *bench) remove(id int, key string) {
	b.t.Helper()
	_, err := b.m.Delete(id, key)
	b.ok("Delete "+key, err)
}

func (b *bench) save(id int) int {
	b.t.Helper()
	which, err := b.m.Save(id)
	b.ok("Save", err)
	return which
}

func (b *bench) commit(id int) int {
	b.t.Helper()
	at, err := b.m.Commit(id)
	b.ok("Commit", err)
	return at
}

// committed lets cells be there, by a transaction of their own.
func (b *bench) committed(cells ...string) {
	b.t.Helper()
	id := b.begin()
	for i := 0; i < len(cells); i += 2 {
		b.put(id, cells[i], cells[i+1])
	}
	b.commit(id)
}

// entry is a record, and its place.
type entry struct {
	at int
	r  api.Rec
}

// entries are the records from a place on, but for those of whole pages.
func (b *bench) entries(from int) []entry {
	b.t.Helper()
	var l []entry
	for at := from; at < b.l.End(); {
		r, next, err := b.l.Read(at)
		b.ok("wal: Read", err)
		if r.Kind != api.RecFull && r.Kind != api.RecShape {
			l = append(l, entry{at, r})
		}
		at = next
	}
	return l
}

// same tells whether two records are one: those of transactions have no lists.
func same(a, b api.Rec) bool {
	return a.Kind == b.Kind && a.Txn == b.Txn && a.Prev == b.Prev && a.Next == b.Next && a.Act == b.Act &&
		a.Page == b.Page && a.Key == b.Key && a.Old == b.Old && a.New == b.New
}

// wantRecords holds what stands in the log from a place on against records, and tells
// their places.
func (b *bench) wantRecords(what string, from int, want ...api.Rec) []int {
	b.t.Helper()
	got := b.entries(from)
	var places []int
	for i, e := range got {
		places = append(places, e.at)
		if i < len(want) && !same(e.r, want[i]) {
			b.t.Errorf("%s: record %d is %+v, want %+v", what, i, e.r, want[i])
		}
	}
	if len(got) != len(want) {
		b.t.Fatalf("%s: %d records, want %d: %+v", what, len(got), len(want), got)
	}
	return places
}

// cells are all that the tree has, as texts.
func (b *bench) cells() []string {
	b.t.Helper()
	l, err := b.x.Scan("", "", 1<<20)
	b.ok("Scan", err)
	var texts []string
	for _, c := range l {
		texts = append(texts, c.Key+"="+c.Val)
	}
	return texts
}

func (b *bench) wantCells(what string, want ...string) {
	b.t.Helper()
	if got := b.cells(); !slices.Equal(got, want) {
		b.t.Errorf("%s: the tree has %q, want %q", what, got, want)
	}
	if !b.x.Check() {
		b.t.Errorf("%s: the tree is none", what)
	}
}

func (b *bench) wantGoing(what string, want ...int) {
	b.t.Helper()
	if got := b.m.Going(); !slices.Equal(got, want) {
		b.t.Errorf("%s: %v go on, want %v", what, got, want)
	}
}

func (b *bench) leafOf(key string) int {
	b.t.Helper()
	id, err := b.x.Leaf(key)
	b.ok("Leaf", err)
	return id
}

// fill lets just so many bytes be left in the log.
func (b *bench) fill(left int) {
	b.t.Helper()
	const most, least = 73, 26 // of an insert with the longest key and value, and the shortest
	for b.l.Left() > left {
		many := b.l.Left() - left
		if many > most {
			many = min(most, many-least)
		}
		length := many - 25
		if length < 0 {
			b.t.Fatalf("fill: %d bytes are too few", many)
		}
		key := min(length, api.MaxKey)
		_, err := b.l.Append(api.Rec{Kind: api.RecInsert, Txn: 1, Key: text('k', key), New: text('v', length-key)})
		b.ok("wal: Append", err)
	}
	if b.l.Left() != left {
		b.t.Fatalf("fill: %d bytes are left, want %d", b.l.Left(), left)
	}
}

func text(c byte, many int) string { return strings.Repeat(string([]byte{c}), many) }

// face is all that a manager, its log and its tree tell.
type face struct {
	going []int
	table []api.Active
	acts  int
	holds []lock.Hold
	dead  bool
	end   int
	cells []string
}

func (b *bench) face() face {
	b.t.Helper()
	f := face{b.m.Going(), b.m.Table(), b.m.Acts(), nil, b.m.Dead(), b.l.End(), b.cells()}
	for _, id := range f.going {
		f.holds = append(f.holds, b.m.Holds(id)...)
	}
	return f
}

func (f face) is(g face) bool {
	return slices.Equal(f.going, g.going) && slices.Equal(f.table, g.table) && f.acts == g.acts &&
		slices.Equal(f.holds, g.holds) && f.dead == g.dead && f.end == g.end && slices.Equal(f.cells, g.cells)
}

// wantUnturned does calls that must leave all as it was.
func (b *bench) wantUnturned(what string, call func()) {
	b.t.Helper()
	before := b.face()
	call()
	if after := b.face(); !before.is(after) {
		b.t.Errorf("%s: %+v, was %+v", what, after, before)
	}
}

// wantRefused holds each call against a manager that tells one error alone.
func wantRefused(t testing.TB, m *txn.Manager, id int, want api.Errno) {
	t.Helper()
	if n, err := m.Begin(); n != 0 || err != want {
		t.Errorf("Begin: %d, error %d, want %d", n, err, want)
	}
	for _, id := range []int{id, 0, -1} {
		for _, key := range []string{"a", "", text('k', 17)} {
			if v, is, err := m.Get(id, key); v != "" || is || err != want {
				t.Errorf("Get: %q, %v, error %d, want %d", v, is, err, want)
			}
			if l, err := m.Scan(id, key, "", -1); len(l) > 0 || err != want {
				t.Errorf("Scan: %v, error %d, want %d", l, err, want)
			}
			if is, err := m.Put(id, key, text('v', 33)); is || err != want {
				t.Errorf("Put: %v, error %d, want %d", is, err, want)
			}
			if is, err := m.Delete(id, key); is || err != want {
				t.Errorf("Delete: %v, error %d, want %d", is, err, want)
			}
		}
		if n, err := m.Save(id); n != 0 || err != want {
			t.Errorf("Save: %d, error %d, want %d", n, err, want)
		}
		wantErr(t, "Back", m.Back(id, 0), want)
		if at, err := m.Commit(id); at != 0 || err != want {
			t.Errorf("Commit: %d, error %d, want %d", at, err, want)
		}
		wantErr(t, "Abort", m.Abort(id), want)
	}
}

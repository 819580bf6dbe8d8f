package redo_test

import (
	"slices"
	"testing"

	"gharry/api"
	"gharry/disk"
	"gharry/page"
	"gharry/pool"
	"gharry/rec"
	"gharry/redo"
	"gharry/store"
	"gharry/wal"
)

func insert(txn, id int, key, val string) api.Rec {
	return api.Rec{Kind: api.RecInsert, Txn: txn, Page: id, Key: key, New: val}
}

func remove(txn, id int, key, old string) api.Rec {
	return api.Rec{Kind: api.RecDelete, Txn: txn, Page: id, Key: key, Old: old}
}

func update(txn, id int, key, old, val string) api.Rec {
	return api.Rec{Kind: api.RecUpdate, Txn: txn, Page: id, Key: key, Old: old, New: val}
}

func undo(act int, r api.Rec) api.Rec {
	r.Kind, r.Act = api.RecUndo, act
	return r
}

func commit(txn int) api.Rec { return api.Rec{Kind: api.RecCommit, Txn: txn} }

func end(txn int) api.Rec { return api.Rec{Kind: api.RecEnd, Txn: txn} }

// check is a check's record; its table is told by numbers and places by turns.
func check(numbers ...int) api.Rec {
	return api.Rec{Kind: api.RecCheck, Table: actives(numbers...)}
}

func epoch(epoch, node int) api.Rec {
	return api.Rec{Kind: api.RecEpoch, Epoch: epoch, Node: node}
}

func full(id int, text string) api.Rec {
	return api.Rec{Kind: api.RecFull, Images: []api.Image{{Page: id, Text: text}}}
}

func shape(images ...api.Image) api.Rec {
	return api.Rec{Kind: api.RecShape, Images: images}
}

func actives(numbers ...int) []api.Active {
	var l []api.Active
	for i := 0; i < len(numbers); i += 2 {
		l = append(l, api.Active{Txn: numbers[i], Last: numbers[i+1]})
	}
	return l
}

func spans(numbers ...int) []api.Span {
	var l []api.Span
	for i := 0; i < len(numbers); i += 2 {
		l = append(l, api.Span{Epoch: numbers[i], Start: numbers[i+1]})
	}
	return l
}

// leaf is a page of cells, whose keys and values are told by turns.
func leaf(texts ...string) string {
	var l []api.Cell
	for i := 0; i < len(texts); i += 2 {
		l = append(l, api.Cell{Key: texts[i], Val: texts[i+1]})
	}
	text, err := page.Make(page.Leaf, 0, l)
	if err != api.OK {
		panic(err)
	}
	return text
}

// bench is a log.
type bench struct {
	t testing.TB
	d *disk.Disk
	l *wal.Log
}

const benchLog = 1000 // sectors

func newBench(t testing.TB, records ...api.Rec) *bench {
	t.Helper()
	d, err := disk.New(benchLog)
	b := &bench{t: t, d: d}
	b.ok("disk.New", err)
	b.l, err = wal.Open(d, 0, benchLog, 1)
	b.ok("wal.Open", err)
	for _, r := range records {
		b.add(r)
	}
	return b
}

func (b *bench) ok(what string, err api.Errno) {
	b.t.Helper()
	if err != api.OK {
		b.t.Fatalf("%s: error %d", what, err)
	}
}

// add appends a record: where.
func (b *bench) add(r api.Rec) int {
	b.t.Helper()
	at, err := b.l.Append(r)
	b.ok("wal: Append", err)
	return at
}

// lookAlike appends a record within which another one seems to stand: where that is.
func (b *bench) lookAlike(r api.Rec) int {
	b.t.Helper()
	inner, err := rec.Frame(r)
	b.ok("rec.Frame", err)
	b.add(insert(5, 0, "k", inner))
	at := b.l.End() - len(inner)
	if got, _, err := b.l.Read(at); err != api.OK || got.Kind != r.Kind {
		b.t.Fatalf("nothing looks like a record at %d: %+v, error %d", at, got, err)
	}
	return at
}

// all is all that a log tells.
type all struct {
	table       []api.Active
	check       int
	epoch, node int
	spans       []api.Span
	commits     []api.Active
}

func (a all) is(b all) bool {
	return slices.Equal(a.table, b.table) && a.check == b.check && a.epoch == b.epoch && a.node == b.node &&
		slices.Equal(a.spans, b.spans) && slices.Equal(a.commits, b.commits)
}

func allOf(t testing.TB, l *wal.Log) all {
	t.Helper()
	var a all
	var err api.Errno
	a.table, err = redo.Table(l, 0)
	if err != api.OK {
		t.Fatalf("Table: error %d", err)
	}
	a.check = redo.Check(l)
	a.epoch, a.node = redo.Leader(l)
	a.spans = redo.Spans(l)
	a.commits = redo.Commits(l, 1<<40)
	return a
}

func wantAll(t testing.TB, why string, l *wal.Log, want all) {
	t.Helper()
	if got := allOf(t, l); !got.is(want) {
		t.Errorf("%s: %+v, want %+v", why, got, want)
	}
}

func wantTable(t testing.TB, why string, l *wal.Log, check int, want ...api.Active) {
	t.Helper()
	if got, err := redo.Table(l, check); !slices.Equal(got, want) || err != api.OK {
		t.Errorf("Table from %d, %s: %v, error %d, want %v", check, why, got, err, want)
	}
}

func wantDamage(t testing.TB, why string, l *wal.Log, check int) {
	t.Helper()
	if got, err := redo.Table(l, check); len(got) > 0 || err != api.ErrDamage {
		t.Errorf("Table from %d, %s: %v, error %d, want %d", check, why, got, err, api.ErrDamage)
	}
}

const poolPages = 10

// pages is a pool on a disk of its own, in which no page was written.
func pages(t testing.TB, l *wal.Log, frames int) (*disk.Disk, *pool.Pool) {
	t.Helper()
	d, err := disk.New(poolPages * api.PageSectors)
	if err != api.OK {
		t.Fatalf("disk.New: error %d", err)
	}
	return d, poolOn(t, d, l, frames)
}

func poolOn(t testing.TB, d *disk.Disk, l *wal.Log, frames int) *pool.Pool {
	t.Helper()
	s, err := store.New(d, 0, poolPages, 1)
	if err != api.OK {
		t.Fatalf("store.New: error %d", err)
	}
	p, err := pool.New(s, l, frames)
	if err != api.OK {
		t.Fatalf("pool.New: error %d", err)
	}
	return p
}

// version is a page, and its record.
type version struct {
	text string
	lsn  int
}

func versions(t testing.TB, p *pool.Pool) []version {
	t.Helper()
	var l []version
	for id := range p.Pages() {
		text, lsn, err := p.Get(id)
		if err != api.OK {
			t.Fatalf("pool: Get(%d): error %d", id, err)
		}
		l = append(l, version{text, lsn})
	}
	return l
}

// wantPage holds a page's cells against keys and values that are told by turns. (Its bytes
// tell of cells that it has no more, too.)
func wantPage(t testing.TB, why string, p *pool.Pool, id, lsn int, texts ...string) {
	t.Helper()
	text, at, err := p.Get(id)
	var got []string
	for _, c := range page.Cells(text) {
		got = append(got, c.Key, c.Val)
	}
	if !slices.Equal(got, texts) || at != lsn || err != api.OK {
		t.Errorf("%s: page %d has %q, of the record %d, error %d; want %q, %d", why, id, got, at, err, texts, lsn)
	}
}

func wantAgain(t testing.TB, why string, p *pool.Pool, l *wal.Log, from, want int) {
	t.Helper()
	if many, err := redo.Again(p, l, from); many != want || err != api.OK {
		t.Errorf("Again from %d, %s: %d, error %d, want %d", from, why, many, err, want)
	}
}

func wantRefused(t testing.TB, why string, p *pool.Pool, l *wal.Log, from int, want api.Errno) {
	t.Helper()
	if many, err := redo.Again(p, l, from); many != 0 || err != want {
		t.Errorf("Again from %d, %s: %d, error %d, want %d", from, why, many, err, want)
	}
}

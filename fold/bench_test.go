package fold_test

import (
	"slices"
	"testing"

	"gharry/api"
	"gharry/disk"
	"gharry/fold"
	"gharry/rec"
	"gharry/wal"
)

func insert(txn int, key, val string) api.Rec {
	return api.Rec{Kind: api.RecInsert, Txn: txn, Key: key, New: val}
}

func remove(txn int, key, old string) api.Rec {
	return api.Rec{Kind: api.RecDelete, Txn: txn, Key: key, Old: old}
}

func update(txn int, key, old, val string) api.Rec {
	return api.Rec{Kind: api.RecUpdate, Txn: txn, Key: key, Old: old, New: val}
}

func undo(act, txn int, key, old, val string) api.Rec {
	return api.Rec{Kind: api.RecUndo, Act: act, Txn: txn, Key: key, Old: old, New: val}
}

func commit(txn int) api.Rec { return api.Rec{Kind: api.RecCommit, Txn: txn} }

func end(txn int) api.Rec { return api.Rec{Kind: api.RecEnd, Txn: txn} }

// cells are told by keys and values by turns.
func cells(texts ...string) []api.Cell {
	var l []api.Cell
	for i := 0; i < len(texts); i += 2 {
		l = append(l, api.Cell{Key: texts[i], Val: texts[i+1]})
	}
	return l
}

// face is all that a fold tells, but for single keys.
type face struct {
	cells []api.Cell
	count int
	going []int
}

// wantFace holds a fold against a face; each cell is asked for by its key, too.
func wantFace(t testing.TB, why string, f *fold.Fold, want face) {
	t.Helper()
	got := face{f.Cells(), f.Count(), f.Going()}
	if !slices.Equal(got.cells, want.cells) || got.count != want.count || !slices.Equal(got.going, want.going) {
		t.Errorf("%s: %+v, want %+v", why, got, want)
	}
	for _, c := range want.cells {
		wantGet(t, why, f, c.Key, c.Val, true)
	}
}

func wantGet(t testing.TB, why string, f *fold.Fold, key, val string, is bool) {
	t.Helper()
	if got, has := f.Get(key); got != val || has != is {
		t.Errorf("Get(%q), %s: %q, %v, want %q, %v", key, why, got, has, val, is)
	}
}

func wantSteps(t testing.TB, why string, l *wal.Log, want ...[]api.Cell) {
	t.Helper()
	if got := fold.Steps(l); !slices.EqualFunc(got, want, slices.Equal) {
		t.Errorf("Steps, %s: %q, want %q", why, got, want)
	}
}

func wantKey(t testing.TB, why string, l *wal.Log, key string, want ...fold.Change) {
	t.Helper()
	if got := fold.Key(l, key); !slices.Equal(got, want) {
		t.Errorf("Key(%q), %s: %v, want %v", key, why, got, want)
	}
}

func wantWhen(t testing.TB, why string, l *wal.Log, key string, end int, val string, is bool) {
	t.Helper()
	if got, has := fold.When(l, key, end); got != val || has != is {
		t.Errorf("When(%q, %d), %s: %q, %v, want %q, %v", key, end, why, got, has, val, is)
	}
}

// noted is a fold of records.
func noted(records ...api.Rec) *fold.Fold {
	f := fold.New()
	for _, r := range records {
		f.Note(r)
	}
	return f
}

// bench is a log.
type bench struct {
	t testing.TB
	l *wal.Log
}

const benchLog = 1000 // sectors

func newBench(t testing.TB, records ...api.Rec) *bench {
	t.Helper()
	d, err := disk.New(benchLog)
	b := &bench{t: t}
	b.ok("disk.New", err)
	b.l, err = wal.Open(d, 0, benchLog, 1)
	b.ok("wal.Open", err)
	for _, r := range records {
		b.add(r)
	}
	return b
}

func (b *bench) ok(what string, err api.Errno) {
	b.t.Helper()
	if err != api.OK {
		b.t.Fatalf("%s: error %d", what, err)
	}
}

// add appends a record: where.
func (b *bench) add(r api.Rec) int {
	b.t.Helper()
	at, err := b.l.Append(r)
	b.ok("wal: Append", err)
	return at
}

// lookAlike appends a record within which another one seems to stand.
func (b *bench) lookAlike(txn int, key string, r api.Rec) {
	b.t.Helper()
	inner, err := rec.Frame(r)
	b.ok("rec.Frame", err)
	b.add(insert(txn, key, inner))
	at := b.l.End() - len(inner)
	if got, _, err := b.l.Read(at); err != api.OK || got.Kind != r.Kind {
		b.t.Fatalf("nothing looks like a record at %d: %+v, error %d", at, got, err)
	}
}

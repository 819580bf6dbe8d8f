package past_test

import (
	"slices"
	"testing"

	"gharry/api"
	"gharry/disk"
	"gharry/past"
	"gharry/rec"
	"gharry/wal"
)

// insert, remove, update and undo are records of a transaction; behind gives one its Prev.
func insert(txn int, key, val string) api.Rec {
	return api.Rec{Kind: api.RecInsert, Txn: txn, Key: key, New: val}
}

func remove(txn int, key, old string) api.Rec {
	return api.Rec{Kind: api.RecDelete, Txn: txn, Key: key, Old: old}
}

func update(txn int, key, old, val string) api.Rec {
	return api.Rec{Kind: api.RecUpdate, Txn: txn, Key: key, Old: old, New: val}
}

func undo(txn, act int, key, old, val string) api.Rec {
	return api.Rec{Kind: api.RecUndo, Txn: txn, Act: act, Key: key, Old: old, New: val}
}

func behind(prev int, r api.Rec) api.Rec {
	r.Prev = prev
	return r
}

// noted is a past of records at the places 1, 2, 3 and so on.
func noted(records ...api.Rec) *past.Past {
	p := past.New()
	for i, r := range records {
		p.Note(r, i+1)
	}
	return p
}

// cells are made of keys and values by turns.
func cells(texts ...string) []api.Cell {
	var l []api.Cell
	for i := 0; i < len(texts); i += 2 {
		l = append(l, api.Cell{Key: texts[i], Val: texts[i+1]})
	}
	return l
}

// bench is a log.
type bench struct {
	t testing.TB
	l *wal.Log
}

func newBench(t testing.TB) *bench {
	t.Helper()
	const sectors = 1000
	d, err := disk.New(sectors)
	if err != api.OK {
		t.Fatalf("disk.New: error %d", err)
	}
	l, err := wal.Open(d, 0, sectors, 1)
	if err != api.OK {
		t.Fatalf("wal.Open: error %d", err)
	}
	return &bench{t, l}
}

// add appends a record: where.
func (b *bench) add(r api.Rec) int {
	b.t.Helper()
	at, err := b.l.Append(r)
	if err != api.OK {
		b.t.Fatalf("wal: Append: error %d", err)
	}
	return at
}

func frame(t testing.TB, r api.Rec) string {
	t.Helper()
	s, err := rec.Frame(r)
	if err != api.OK {
		t.Fatalf("rec.Frame: error %d", err)
	}
	return s
}

func load(t testing.TB, l *wal.Log, table ...api.Active) *past.Past {
	t.Helper()
	p, err := past.Load(l, table)
	if p == nil || err != api.OK {
		t.Fatalf("Load of %v: %v, error %d", table, p, err)
	}
	return p
}

func wantDamage(t testing.TB, why string, l *wal.Log, table ...api.Active) {
	t.Helper()
	if p, err := past.Load(l, table); p != nil || err != api.ErrDamage {
		t.Errorf("Load of %v, %s: %v, error %d, want %d", table, why, p, err, api.ErrDamage)
	}
}

// keyed is a key, and what it had.
type keyed struct {
	key string
	was past.Was
}

// face is all that a past tells, but for its views.
type face struct {
	table []api.Active
	keys  []keyed
	acts  int
}

func faceOf(p *past.Past) face {
	f := face{table: p.Table(), acts: p.Acts()}
	for _, key := range p.Keys() {
		was, _ := p.Get(key)
		f.keys = append(f.keys, keyed{key, was})
	}
	return f
}

func (f face) is(g face) bool {
	return slices.Equal(f.table, g.table) && slices.Equal(f.keys, g.keys) && f.acts == g.acts
}

func wantFace(t testing.TB, why string, p *past.Past, want face) {
	t.Helper()
	if got := faceOf(p); !got.is(want) {
		t.Errorf("%s: %+v, want %+v", why, got, want)
	}
	for _, k := range want.keys {
		wantGet(t, p, k.key, k.was, true)
	}
}

func wantGet(t testing.TB, p *past.Past, key string, want past.Was, wantIs bool) {
	t.Helper()
	if got, is := p.Get(key); got != want || is != wantIs {
		t.Errorf("Get(%q): %+v, %v, want %+v, %v", key, got, is, want, wantIs)
	}
}

func wantView(t testing.TB, p *past.Past, l, want []api.Cell) {
	t.Helper()
	if got := p.View(l, "", "", 99); !slices.Equal(got, want) {
		t.Errorf("View: %q, want %q", got, want)
	}
}

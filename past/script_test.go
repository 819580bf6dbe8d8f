package past_test

import (
	"cmp"
	"maps"
	"math/rand"
	"slices"
	"strconv"
	"testing"

	"gharry/api"
	"gharry/disk"
	"gharry/past"
	"gharry/pool"
	"gharry/store"
	"gharry/tree"
	"gharry/txn"
	"gharry/wal"
)

// plain is all that was noted, in order; what a past must tell is looked up from the first
// note on each time.
type plain []struct {
	r  api.Rec
	at int
}

func ends(r api.Rec) bool { return r.Kind == api.RecCommit || r.Kind == api.RecEnd }

// of is what stands behind a transaction's last end.
func (n plain) of(txn int) plain {
	var left plain
	for _, e := range n {
		if e.r.Txn == txn {
			left = append(left, e)
		}
		if e.r.Txn == txn && ends(e.r) {
			left = nil
		}
	}
	return left
}

func (n plain) last(txn int) int {
	if left := n.of(txn); len(left) > 0 {
		return left[len(left)-1].at
	}
	return 0
}

// face goes through the numbers from the greatest down, so that the least has its word last.
func (n plain) face(most int) face {
	var f face
	had := map[string]past.Was{}
	for id := most; id > 0; id-- {
		left := n.of(id)
		if len(left) == 0 {
			continue
		}
		f.table = append(f.table, api.Active{Txn: id, Last: n.last(id)})
		own := map[string]past.Was{}
		for _, e := range slices.Backward(left) {
			switch e.r.Kind {
			case api.RecInsert:
				own[e.r.Key] = past.Was{}
			case api.RecDelete, api.RecUpdate:
				own[e.r.Key] = past.Was{Val: e.r.Old, Is: true}
			}
		}
		f.acts += len(own)
		maps.Copy(had, own)
	}
	slices.Reverse(f.table)
	for _, key := range slices.Sorted(maps.Keys(had)) {
		f.keys = append(f.keys, keyed{key, had[key]})
	}
	return f
}

// view is what a face says of rising cells.
func (f face) view(l []api.Cell, lo, hi string, most int) []api.Cell {
	var seen []api.Cell
	for _, c := range l {
		if !slices.ContainsFunc(f.keys, func(k keyed) bool { return k.key == c.Key }) {
			seen = append(seen, c)
		}
	}
	for _, k := range f.keys {
		if k.was.Is && k.key >= lo && (k.key <= hi || hi == "") {
			seen = append(seen, api.Cell{Key: k.key, Val: k.was.Val})
		}
	}
	slices.SortFunc(seen, func(a, b api.Cell) int { return cmp.Compare(a.Key, b.Key) })
	return seen[:max(0, min(most, len(seen)))]
}

func someKey(rng *rand.Rand) string {
	return []string{"a", "aa", "b", "c", "ca", "d", "\xff", "e"}[rng.Intn(8)]
}

// someRecord is one of a few transactions' records, of any kind.
func someRecord(rng *rand.Rand, most int) api.Rec {
	r := api.Rec{Txn: 1 + rng.Intn(most), Key: someKey(rng)}
	old, val := strconv.Itoa(rng.Intn(3)), strconv.Itoa(rng.Intn(3))
	if rng.Intn(4) == 0 {
		old = ""
	}
	switch rng.Intn(14) {
	case 0:
		r.Kind, r.Key = api.RecCommit, ""
	case 1:
		r.Kind, r.Key = api.RecEnd, ""
	case 2:
		return api.Rec{Kind: api.RecCheck, Table: []api.Active{{Txn: r.Txn, Last: 1}}}
	case 3:
		return api.Rec{Kind: api.RecEpoch, Epoch: 1, Node: 1}
	case 4, 5:
		r = undo(r.Txn, api.RecUpdate, r.Key, old, val)
	case 6, 7, 8:
		r = insert(r.Txn, r.Key, val)
	case 9, 10:
		r = remove(r.Txn, r.Key, old)
	default:
		r = update(r.Txn, r.Key, old, val)
	}
	return r
}

func someCells(rng *rand.Rand) []api.Cell {
	had := map[string]past.Was{}
	for range rng.Intn(9) {
		had[someKey(rng)] = past.Was{}
	}
	var l []api.Cell
	for _, key := range slices.Sorted(maps.Keys(had)) {
		l = append(l, api.Cell{Key: key, Val: "now"})
	}
	return l
}

// someEnds are those of a table in any order, some of them with a wrong word ahead.
func someEnds(rng *rand.Rand, table []api.Active) []api.Active {
	var right, wrong []api.Active
	for _, i := range rng.Perm(len(table)) {
		right = append(right, table[i])
		if rng.Intn(3) == 0 {
			wrong = append(wrong, api.Active{Txn: table[i].Txn, Last: rng.Intn(9) - 4})
		}
	}
	return append(wrong, right...)
}

// Promises 14.1 to 14.3 and 14.5, in any order of records.
func TestScripts(t *testing.T) {
	const most = 6 // transactions
	for seed := range 60 {
		rng := rand.New(rand.NewSource(int64(seed)))
		b := newBench(t)
		var n plain
		pasts := []*past.Past{past.New()} // noted from the beginning on, and such as were loaded on the way
		for range 120 {
			r := someRecord(rng, most)
			if r.Txn > 0 {
				r.Prev = n.last(r.Txn)
			}
			at := b.add(r)
			n = append(n, struct {
				r  api.Rec
				at int
			}{r, at})
			want := n.face(most)
			for _, p := range pasts {
				p.Note(r, at)
				wantFace(t, "noted", p, want)
			}
			loaded := load(t, b.l, someEnds(rng, want.table)...)
			wantFace(t, "loaded", loaded, want)
			if rng.Intn(40) == 0 {
				pasts = append(pasts, loaded)
			}
			wantViews(t, rng, want, pasts[0], loaded)
		}
		if t.Failed() {
			t.Fatalf("seed %d", seed)
		}
	}
}

func wantViews(t *testing.T, rng *rand.Rand, f face, pasts ...*past.Past) {
	t.Helper()
	l, lo, hi, most := someCells(rng), someKey(rng), someKey(rng), rng.Intn(12)-1
	if rng.Intn(3) == 0 {
		lo = ""
	}
	if rng.Intn(3) == 0 {
		hi = ""
	}
	want := f.view(l, lo, hi, most)
	for _, p := range pasts {
		if got := p.View(l, lo, hi, most); !slices.Equal(got, want) {
			t.Errorf("View(%q, %q, %q, %d): %q, want %q", l, lo, hi, most, got, want)
		}
	}
}

// office is transactions in a tree, what they have committed, and the past of their log.
type office struct {
	t         *testing.T
	rng       *rand.Rand
	d         *disk.Disk
	l         *wal.Log
	x         *tree.Tree
	m         *txn.Manager
	p         *past.Past
	noted     int               // up to which place
	committed map[string]string // by key
	own       map[int]map[string]past.Was
	saves     map[int][]map[string]past.Was // what each had turned then
}

const officeLog = 4000 // sectors

func newOffice(t *testing.T, seed int) *office {
	t.Helper()
	const pages = 200
	o := &office{t: t, rng: rand.New(rand.NewSource(int64(seed))), p: past.New(), noted: 1,
		committed: map[string]string{}, own: map[int]map[string]past.Was{}, saves: map[int][]map[string]past.Was{}}
	var err api.Errno
	o.d, err = disk.New(officeLog + pages*api.PageSectors)
	o.ok("disk.New", err)
	o.l, err = wal.Open(o.d, 0, officeLog, 1)
	o.ok("wal.Open", err)
	s, err := store.New(o.d, officeLog, pages, 1)
	o.ok("store.New", err)
	p, err := pool.New(s, o.l, 8)
	o.ok("pool.New", err)
	o.x = tree.New(p, o.l)
	o.ok("Create", o.x.Create())
	o.m = txn.New(o.x, o.l, 100)
	return o
}

func (o *office) ok(what string, err api.Errno) {
	o.t.Helper()
	if err != api.OK {
		o.t.Fatalf("%s: error %d", what, err)
	}
}

// step does something with a transaction. One that an error met is over, and leaves nothing.
func (o *office) step() {
	o.t.Helper()
	going := o.m.Going()
	if len(going) == 0 || len(going) < api.MaxTxns && o.rng.Intn(6) == 0 {
		id, err := o.m.Begin()
		o.ok("Begin", err)
		o.own[id] = map[string]past.Was{}
		return
	}
	id := going[o.rng.Intn(len(going))]
	if o.turn(id) != api.OK {
		o.over(id)
	}
}

func (o *office) turn(id int) api.Errno {
	o.t.Helper()
	key := "k" + strconv.Itoa(o.rng.Intn(60))
	switch o.rng.Intn(16) {
	case 0:
		_, err := o.m.Commit(id)
		o.ok("Commit", err)
		o.commit(id)
	case 1:
		o.ok("Abort", o.m.Abort(id))
		o.over(id)
	case 2:
		_, err := o.m.Save(id)
		if err != api.OK {
			return err
		}
		o.saves[id] = append(o.saves[id], maps.Clone(o.own[id]))
	case 3:
		if len(o.saves[id]) == 0 {
			return api.OK
		}
		save := o.rng.Intn(len(o.saves[id]))
		o.ok("Back", o.m.Back(id, save))
		o.own[id] = maps.Clone(o.saves[id][save])
		o.saves[id] = o.saves[id][:save+1]
	case 4, 5, 6, 7:
		if _, err := o.m.Delete(id, key); err != api.OK {
			return err
		}
		o.own[id][key] = past.Was{}
	default:
		val := strconv.Itoa(o.rng.Intn(1000))
		if _, err := o.m.Put(id, key, val); err != api.OK {
			return err
		}
		o.own[id][key] = past.Was{Val: val, Is: true}
	}
	return api.OK
}

func (o *office) commit(id int) {
	for key, w := range o.own[id] {
		if w.Is {
			o.committed[key] = w.Val
		} else {
			delete(o.committed, key)
		}
	}
	o.over(id)
}

func (o *office) over(id int) {
	delete(o.own, id)
	delete(o.saves, id)
}

// note notes what the log has more.
func (o *office) note() {
	o.t.Helper()
	for o.noted < o.l.End() {
		r, next, err := o.l.Read(o.noted)
		o.ok("wal: Read", err)
		o.p.Note(r, o.noted)
		o.noted = next
	}
}

// was is what was committed of a range.
func (o *office) was(lo, hi string, most int) []api.Cell {
	var l []api.Cell
	for _, key := range slices.Sorted(maps.Keys(o.committed)) {
		if key >= lo && (hi == "" || key <= hi) && len(l) < most {
			l = append(l, api.Cell{Key: key, Val: o.committed[key]})
		}
	}
	return l
}

// wantPast holds a past against what was committed, and against who goes on.
func (o *office) wantPast(p *past.Past) {
	o.t.Helper()
	if got, want := p.Table(), o.m.Table(); !slices.Equal(got, want) {
		o.t.Errorf("Table: %v, want %v", got, want)
	}
	for _, key := range p.Keys() {
		val, is := o.committed[key]
		wantGet(o.t, p, key, past.Was{Val: val, Is: is}, true)
	}
	lo, hi, most := "k"+strconv.Itoa(o.rng.Intn(60)), "k"+strconv.Itoa(o.rng.Intn(60)), o.rng.Intn(70)
	if o.rng.Intn(2) == 0 {
		lo, hi = "", ""
	} else if hi < lo {
		lo, hi = hi, lo
	}
	l, err := o.x.Scan(lo, hi, 1<<20)
	o.ok("Scan", err)
	if got, want := p.View(l, lo, hi, most), o.was(lo, hi, most); !slices.Equal(got, want) {
		o.t.Errorf("View of %q to %q, %d: %q, want %q", lo, hi, most, got, want)
	}
}

// What a past of true transactions lets one see is what was committed, whatever goes on;
// whether it was noted, or loaded from their last records (14.5).
func TestViewOfATreeIsWhatWasCommitted(t *testing.T) {
	for seed := range 8 {
		o := newOffice(t, seed)
		for range 400 {
			o.step()
			o.note()
			loaded := load(t, o.l, o.m.Table()...)
			o.wantPast(o.p)
			o.wantPast(loaded)
			wantFace(t, "loaded", loaded, faceOf(o.p))
			if t.Failed() {
				t.Fatalf("seed %d", seed)
			}
		}
	}
}

// A log that is opened again tells the same past.
func TestLoadOfALogOpenedAgain(t *testing.T) {
	o := newOffice(t, 77)
	for range 300 {
		o.step()
	}
	o.note()
	o.ok("Flush", o.l.Flush())
	if len(o.p.Table()) == 0 || o.p.Acts() == 0 {
		t.Fatal("nobody goes on")
	}
	l, err := wal.Open(o.d, 0, officeLog, 2)
	o.ok("wal.Open", err)
	wantFace(t, "opened again", load(t, l, o.m.Table()...), faceOf(o.p))
}

package fold_test

import (
	"maps"
	"math/rand"
	"slices"
	"strconv"
	"strings"
	"testing"

	"gharry/api"
	"gharry/disk"
	"gharry/fold"
	"gharry/pool"
	"gharry/redo"
	"gharry/store"
	"gharry/tree"
	"gharry/txn"
	"gharry/wal"
)

// plain is a log's records, looked through from the last one back each time.
type plain struct {
	records []api.Rec
	places  []int
}

func isEnd(r api.Rec) bool { return r.Kind == api.RecCommit || r.Kind == api.RecEnd }

// word is what a record says of a key: its value, or that it has none; false: nothing.
func word(r api.Rec, key string) (fold.Change, bool) {
	act := r.Kind
	if r.Kind == api.RecUndo {
		act = r.Act
	}
	if r.Key != key || act < api.RecInsert || act > api.RecUpdate {
		return fold.Change{}, false
	}
	if act == api.RecDelete {
		return fold.Change{}, true
	}
	return fold.Change{Val: r.New, Is: true}, true
}

// ownAt is what a transaction's key has ahead of the record i; false: it was not turned.
func (p plain) ownAt(i, txn int, key string) (fold.Change, bool) {
	for _, r := range slices.Backward(p.records[:i]) {
		if r.Txn != txn || !isEnd(r) && r.Key != key {
			continue
		}
		if isEnd(r) {
			break
		}
		if c, says := word(r, key); says {
			return c, true
		}
	}
	return fold.Change{}, false
}

// key is all changes of a key ahead of the record i.
func (p plain) key(i int, key string) []fold.Change {
	var l []fold.Change
	for j, r := range p.records[:i] {
		if c, turned := p.ownAt(j, r.Txn, key); turned && r.Kind == api.RecCommit {
			c.At = p.places[j]
			l = append(l, c)
		}
	}
	return l
}

// face is what a fold of the records ahead of i tells, of a few keys and numbers.
func (p plain) face(i int, keys []string, numbers int) face {
	var f face
	for _, key := range keys {
		if l := p.key(i, key); len(l) > 0 && l[len(l)-1].Is {
			f.cells = append(f.cells, api.Cell{Key: key, Val: l[len(l)-1].Val})
		}
	}
	for _, r := range p.records[:i] {
		if r.Kind == api.RecCommit {
			f.count++
		}
	}
	for id := range numbers {
		if slices.ContainsFunc(keys, func(key string) bool {
			_, turned := p.ownAt(i, id, key)
			return turned
		}) {
			f.going = append(f.going, id)
		}
	}
	return f
}

// wantLog holds all that is told of a log against the plain one.
func (p plain) wantLog(t *testing.T, l *wal.Log, keys []string, numbers int) {
	t.Helper()
	steps := [][]api.Cell{nil}
	for i, r := range p.records {
		f := p.face(i, keys, numbers)
		wantFace(t, "a script, ahead of a record", fold.Of(l, p.places[i]), f)
		if r.Kind == api.RecCommit {
			steps = append(steps, p.face(i+1, keys, numbers).cells)
		}
	}
	wantFace(t, "a script", fold.Of(l, l.End()), p.face(len(p.records), keys, numbers))
	wantSteps(t, "a script", l, steps...)
	for _, key := range keys {
		changes := p.key(len(p.records), key)
		wantKey(t, "a script", l, key, changes...)
		var last fold.Change
		for i, at := range p.places {
			for _, c := range changes {
				if i > 0 && c.At == p.places[i-1] {
					last = c
				}
			}
			wantWhen(t, "a script", l, key, at, last.Val, last.Is)
		}
	}
}

// Promises 16.1, 16.2 and 16.5, in any order of records.
func TestScriptsOfAnyRecords(t *testing.T) {
	const numbers = 5
	keys := []string{"", "a", "aa", "b", "\xff"}
	for seed := range 30 {
		rng := rand.New(rand.NewSource(int64(seed)))
		b := newBench(t)
		f := fold.New()
		for range 60 {
			id, key := rng.Intn(numbers), keys[rng.Intn(len(keys))]
			old, val := strconv.Itoa(rng.Intn(3)), strconv.Itoa(rng.Intn(3))
			if rng.Intn(5) == 0 {
				val = ""
			}
			r := []api.Rec{
				insert(id, key, val), insert(id, key, val), update(id, key, old, val), remove(id, key, old),
				undo(api.RecInsert, id, key, "", val), undo(api.RecDelete, id, key, old, ""), undo(api.RecUpdate, id, key, old, val),
				commit(id), commit(id), end(id),
				{Kind: api.RecCheck, Table: []api.Active{{Txn: id, Last: 1}}}, {Kind: api.RecEpoch, Epoch: 1, Node: 1},
			}[rng.Intn(12)]
			b.add(r)
			f.Note(r)
		}
		records, places := b.l.Records()
		p := plain{records, places}
		p.wantLog(t, b.l, keys, numbers)
		wantFace(t, "noted", f, p.face(len(records), keys, numbers))
		if t.Failed() {
			t.Fatalf("seed %d", seed)
		}
	}
}

// Promise 16.3: two lists have no key that differs, if and only if they have the same cells.
func TestScriptsOfDiff(t *testing.T) {
	rng := rand.New(rand.NewSource(1))
	some := func() []api.Cell {
		l := make([]api.Cell, rng.Intn(5))
		for i := range l {
			l[i] = api.Cell{Key: string(rune('a' + rng.Intn(4))), Val: strconv.Itoa(rng.Intn(2))}
		}
		return l
	}
	for range 20000 {
		a, b := some(), some()
		var want []string
		for _, key := range []string{"a", "b", "c", "d"} {
			of := func(c api.Cell) bool { return c.Key == key }
			i, is := 0, slices.ContainsFunc(b, of)
			for j, c := range a {
				if of(c) {
					i = j + 1
				}
			}
			differ := is != (i > 0)
			for _, c := range b {
				differ = differ || of(c) && c != a[i-1]
			}
			if differ {
				want = append(want, key)
			}
		}
		if got := fold.Diff(a, b); !slices.Equal(got, want) {
			t.Fatalf("Diff(%q, %q): %q, want %q", a, b, got, want)
		}
	}
}

// node is transactions in a tree on a disk, and what they came to, as they were told.
type node struct {
	t         *testing.T
	rng       *rand.Rand
	run       int
	d         *disk.Disk
	l         *wal.Log
	p         *pool.Pool
	x         *tree.Tree
	m         *txn.Manager
	high      int                    // numbers of transactions are above
	committed map[string]fold.Change // by key
	own       map[int]map[string]fold.Change
	steps     [][]api.Cell
	places    []int                    // of the commits
	changes   map[string][]fold.Change // of each key
}

const (
	nodeLog   = 4000 // sectors
	nodePages = 200
)

func newNode(t *testing.T, seed int) *node {
	t.Helper()
	n := &node{t: t, rng: rand.New(rand.NewSource(int64(seed))), steps: [][]api.Cell{nil},
		committed: map[string]fold.Change{}, own: map[int]map[string]fold.Change{}, changes: map[string][]fold.Change{}}
	var err api.Errno
	n.d, err = disk.New(nodeLog + nodePages*api.PageSectors)
	n.ok("disk.New", err)
	n.open()
	n.begin()
	n.ok("Create", n.x.Create())
	return n
}

func (n *node) ok(what string, err api.Errno) {
	n.t.Helper()
	if err != api.OK {
		n.t.Fatalf("%s: error %d", what, err)
	}
}

// open finds log and pages again; what was in memory is gone.
func (n *node) open() {
	n.t.Helper()
	n.run++
	var err api.Errno
	n.l, err = wal.Open(n.d, 0, nodeLog, n.run)
	n.ok("wal.Open", err)
	s, err := store.New(n.d, nodeLog, nodePages, 1)
	n.ok("store.New", err)
	n.p, err = pool.New(s, n.l, 2+n.rng.Intn(8))
	n.ok("pool.New", err)
}

func (n *node) begin() {
	n.x = tree.New(n.p, n.l)
	n.m = txn.New(n.x, n.l, n.high)
}

// now is what was committed, rising.
func (n *node) now() []api.Cell {
	var l []api.Cell
	for _, key := range slices.Sorted(maps.Keys(n.committed)) {
		if c := n.committed[key]; c.Is {
			l = append(l, api.Cell{Key: key, Val: c.Val})
		}
	}
	return l
}

func (n *node) step() {
	n.t.Helper()
	going := n.m.Going()
	if len(going) == 0 || len(going) < api.MaxTxns && n.rng.Intn(6) == 0 {
		id, err := n.m.Begin()
		n.ok("Begin", err)
		n.high = id
		n.own[id] = map[string]fold.Change{}
		return
	}
	id := going[n.rng.Intn(len(going))]
	if n.turn(id) != api.OK {
		delete(n.own, id)
	}
}

// turn does something with a transaction. One that an error met is over, and leaves nothing.
func (n *node) turn(id int) api.Errno {
	n.t.Helper()
	key := "k" + strconv.Itoa(n.rng.Intn(40))
	switch n.rng.Intn(16) {
	case 0, 1:
		n.commit(id)
	case 2:
		n.ok("Abort", n.m.Abort(id))
		delete(n.own, id)
	case 3, 4, 5:
		had, err := n.m.Delete(id, key)
		if err != api.OK {
			return err
		}
		if had {
			n.own[id][key] = fold.Change{}
		}
	case 6:
		return n.backAndForth(id, key)
	default:
		val := strconv.Itoa(n.rng.Intn(1<<30)) + strings.Repeat("v", n.rng.Intn(20))
		if _, err := n.m.Put(id, key, val); err != api.OK {
			return err
		}
		n.own[id][key] = fold.Change{Val: val, Is: true}
	}
	return api.OK
}

func (n *node) commit(id int) {
	n.t.Helper()
	at, err := n.m.Commit(id)
	n.ok("Commit", err)
	maps.Copy(n.committed, n.own[id])
	if at > 0 {
		n.steps = append(n.steps, n.now())
		n.places = append(n.places, at)
	}
	for key, c := range n.own[id] {
		c.At = at
		n.changes[key] = append(n.changes[key], c)
	}
	delete(n.own, id)
}

// backAndForth turns a key and takes that back, which leaves what was there: turned it was.
func (n *node) backAndForth(id int, key string) api.Errno {
	n.t.Helper()
	save, err := n.m.Save(id)
	if err != api.OK {
		return err
	}
	val, is, err := n.m.Get(id, key)
	if err != api.OK {
		return err
	}
	if _, err := n.m.Put(id, key, "gone"); err != api.OK {
		return err
	}
	if _, err := n.m.Delete(id, key); err != api.OK {
		return err
	}
	n.ok("Back", n.m.Back(id, save))
	n.own[id][key] = fold.Change{Val: val, Is: is}
	return api.OK
}

// wantFold holds a node's log against what it told, and, if nobody goes on, its tree, too.
func (n *node) wantFold() {
	n.t.Helper()
	var going []int
	for _, a := range n.m.Table() {
		going = append(going, a.Txn)
	}
	slices.Sort(going)
	want := face{n.now(), len(n.places), going}
	wantFace(n.t, "a node", fold.Of(n.l, n.l.End()), want)
	wantSteps(n.t, "a node", n.l, n.steps...)
	for key, changes := range n.changes {
		wantKey(n.t, "a node", n.l, key, changes...)
	}
	if many := len(n.places); many > 0 {
		i := n.rng.Intn(many)
		if got := fold.Of(n.l, n.places[i]).Cells(); !fold.Same(got, n.steps[i]) {
			n.t.Errorf("ahead of the commit %d: %q, want %q", i, got, n.steps[i])
		}
		if got := fold.Of(n.l, n.places[i]+1).Cells(); !fold.Same(got, n.steps[i+1]) {
			n.t.Errorf("behind the commit %d: %q, want %q", i, got, n.steps[i+1])
		}
	}
	if len(going) > 0 {
		return
	}
	if got, err := n.x.Scan("", "", 1<<20); !fold.Same(got, want.cells) || err != api.OK {
		n.t.Errorf("the tree differs from the fold in %q, error %d", fold.Diff(got, want.cells), err)
	}
}

// loss lets the power go, and starts again; who went on is taken back.
func (n *node) loss() {
	n.t.Helper()
	n.ok("Crash", n.d.Crash(n.rng.Uint64()))
	n.ok("Start", n.d.Start())
	n.open()
	_, err := redo.Again(n.p, n.l, 1)
	n.ok("Again", err)
	n.begin()
	table, err := redo.Table(n.l, 0)
	n.ok("Table", err)
	var going []int
	for _, a := range table {
		going = append(going, a.Txn)
	}
	wantFace(n.t, "a log behind a loss", fold.Of(n.l, n.l.End()), face{n.now(), len(n.places), going})
	n.ok("Lose", n.m.Lose(table))
	n.own = map[int]map[string]fold.Change{}
}

// The fold of a node's log is what its transactions were told, and what its tree has,
// behind losses of power, too.
func TestNodes(t *testing.T) {
	for seed := range 6 {
		n := newNode(t, seed)
		for range 5 {
			for i := range 40 + n.rng.Intn(60) {
				n.step()
				if i%10 == 0 {
					n.wantFold()
				}
			}
			n.loss()
			n.wantFold()
			if t.Failed() {
				t.Fatalf("seed %d", seed)
			}
		}
	}
}

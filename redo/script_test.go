package redo_test

import (
	"maps"
	"math/rand"
	"slices"
	"strconv"
	"strings"
	"testing"

	"gharry/api"
	"gharry/disk"
	"gharry/pool"
	"gharry/redo"
	"gharry/store"
	"gharry/tree"
	"gharry/txn"
	"gharry/wal"
)

// plainTable looks up each number from the log's end back: its last word holds.
func plainTable(records []api.Rec, places []int, numbers int) []api.Active {
	var l []api.Active
	for txn := range numbers {
		for i, r := range slices.Backward(records) {
			if r.Txn != txn || r.Kind < api.RecInsert || r.Kind > api.RecEnd {
				continue
			}
			if r.Kind != api.RecCommit && r.Kind != api.RecEnd {
				l = append(l, api.Active{Txn: txn, Last: places[i]})
			}
			break
		}
	}
	return l
}

// Promises 15.1 and 15.3, in any order of records; 15.6, of checks that tell what is so.
func TestScriptsOfAnyRecords(t *testing.T) {
	const numbers = 6
	for seed := range 40 {
		rng := rand.New(rand.NewSource(int64(seed)))
		b := newBench(t)
		var want all
		var checks []int
		for range 100 {
			id := 1 + rng.Intn(numbers-1)
			r := []api.Rec{
				insert(id, 1, "a", "1"), update(id, 1, "a", "1", "2"), remove(id, 1, "a", "2"),
				undo(api.RecInsert, insert(id, 1, "a", "2")), commit(id), end(id),
				epoch(rng.Intn(4), rng.Intn(3)), {Kind: api.RecCheck, Table: want.table}, full(id, leaf()),
			}[rng.Intn(9)]
			at := b.add(r)
			switch r.Kind {
			case api.RecCommit:
				want.commits = append(want.commits, api.Active{Txn: id, Last: at})
			case api.RecEpoch:
				want.spans = append(want.spans, api.Span{Epoch: r.Epoch, Start: at})
				want.epoch, want.node = r.Epoch, r.Node
			case api.RecCheck:
				checks = append(checks, at)
				want.check = at
			}
			records, places := b.l.Records()
			want.table = plainTable(records, places, numbers)
			wantAll(t, "a script", b.l, want)
			for _, check := range checks {
				wantTable(t, "a script", b.l, check, want.table...)
			}
		}
		if t.Failed() {
			t.Fatalf("seed %d", seed)
		}
	}
}

// node is transactions in a tree on a disk, what they have committed, and its checks.
type node struct {
	t         *testing.T
	rng       *rand.Rand
	run       int
	d         *disk.Disk
	l         *wal.Log
	p         *pool.Pool
	x         *tree.Tree
	m         *txn.Manager
	high      int            // numbers of transactions are above
	checks    []int          // places
	redo      int            // from where on the log is done again
	commits   []api.Active   // all, as they were told
	committed map[string]was // by key
	own       map[int]map[string]was
}

// was is what a key has.
type was struct {
	val string
	is  bool
}

const (
	nodeLog   = 4000 // sectors
	nodePages = 200
)

func newNode(t *testing.T, seed int) *node {
	t.Helper()
	n := &node{t: t, rng: rand.New(rand.NewSource(int64(seed))), redo: 1,
		committed: map[string]was{}, own: map[int]map[string]was{}}
	var err api.Errno
	n.d, err = disk.New(nodeLog + nodePages*api.PageSectors)
	n.ok("disk.New", err)
	n.open()
	n.begin()
	n.ok("Create", n.x.Create())
	return n
}

func (n *node) ok(what string, err api.Errno) {
	n.t.Helper()
	if err != api.OK {
		n.t.Fatalf("%s: error %d", what, err)
	}
}

// open finds log and pages again; what was in memory is gone.
func (n *node) open() {
	n.t.Helper()
	n.run++
	var err api.Errno
	n.l, err = wal.Open(n.d, 0, nodeLog, n.run)
	n.ok("wal.Open", err)
	s, err := store.New(n.d, nodeLog, nodePages, 1)
	n.ok("store.New", err)
	n.p, err = pool.New(s, n.l, 2+n.rng.Intn(8))
	n.ok("pool.New", err)
}

// begin makes a tree of the pages, and a manager.
func (n *node) begin() {
	n.x = tree.New(n.p, n.l)
	n.m = txn.New(n.x, n.l, n.high)
}

// check is as an engine does it; at times all pages are flushed ahead.
func (n *node) check() {
	n.t.Helper()
	if n.rng.Intn(3) == 0 {
		n.ok("FlushAll", n.p.FlushAll())
	}
	at, err := n.l.Append(api.Rec{Kind: api.RecCheck, Table: n.m.Table()})
	n.ok("wal: Append", err)
	n.ok("wal: Flush", n.l.Flush())
	n.checks = append(n.checks, at)
	n.redo = min(at, n.x.Redo())
	n.x.Mark(at)
}

func (n *node) step() {
	n.t.Helper()
	going := n.m.Going()
	if n.rng.Intn(15) == 0 {
		n.check()
		return
	}
	if len(going) == 0 || len(going) < api.MaxTxns && n.rng.Intn(6) == 0 {
		id, err := n.m.Begin()
		n.ok("Begin", err)
		n.high = id
		n.own[id] = map[string]was{}
		return
	}
	id := going[n.rng.Intn(len(going))]
	if n.turn(id) != api.OK {
		delete(n.own, id)
	}
}

// turn does something with a transaction. One that an error met is over, and leaves nothing.
func (n *node) turn(id int) api.Errno {
	n.t.Helper()
	key := "k" + strconv.Itoa(n.rng.Intn(70))
	switch n.rng.Intn(16) {
	case 0:
		at, err := n.m.Commit(id)
		n.ok("Commit", err)
		if at > 0 {
			n.commits = append(n.commits, api.Active{Txn: id, Last: at})
		}
		maps.Copy(n.committed, n.own[id])
		delete(n.own, id)
	case 1:
		n.ok("Abort", n.m.Abort(id))
		delete(n.own, id)
	case 2, 3, 4, 5:
		if _, err := n.m.Delete(id, key); err != api.OK {
			return err
		}
		n.own[id][key] = was{}
	case 6: // what is taken back at once leaves nothing but its records
		save, err := n.m.Save(id)
		if err != api.OK {
			return err
		}
		if _, err := n.m.Put(id, key, "gone"); err != api.OK {
			return err
		}
		n.ok("Back", n.m.Back(id, save))
	default:
		val := strconv.Itoa(n.rng.Intn(1<<30)) + strings.Repeat("v", n.rng.Intn(20))
		if _, err := n.m.Put(id, key, val); err != api.OK {
			return err
		}
		n.own[id][key] = was{val, true}
	}
	return api.OK
}

// wantTables asks from some check on, and from the first record on: it is the same (15.6).
func (n *node) wantTables() {
	n.t.Helper()
	want := n.m.Table()
	wantTable(n.t, "a node", n.l, 0, want...)
	if many := len(n.checks); many > 0 {
		wantTable(n.t, "a node", n.l, n.checks[n.rng.Intn(many)], want...)
		wantTable(n.t, "a node", n.l, n.checks[many-1], want...)
	}
}

// loss lets the power go, and starts again: all records are done again from where the last
// check tells, and who went on is taken back.
func (n *node) loss() {
	n.t.Helper()
	n.ok("Crash", n.d.Crash(n.rng.Uint64()))
	n.ok("Start", n.d.Start())
	n.open()
	if n.rng.Intn(2) == 0 { // it goes once more, while starting
		n.ok("Arm", n.d.Arm(n.rng.Intn(30), n.rng.Uint64()))
		if many, err := redo.Again(n.p, n.l, n.redo); err == api.OK {
			n.d.Calm()
		} else if many != 0 || err != api.ErrDown {
			n.t.Fatalf("Again: %d, error %d", many, err)
		} else {
			n.ok("Start", n.d.Start())
			n.open()
		}
	}
	n.wantAgain()
	n.begin()
	n.ok("Lose", n.m.Lose(n.wentOn()))
	n.own = map[int]map[string]was{}
}

// wantAgain does the records again, and holds the pages against those that a pool has in
// which all of the log is done from the first record on.
func (n *node) wantAgain() {
	n.t.Helper()
	_, places := n.l.Records()
	i, is := slices.BinarySearch(places, n.redo)
	if !is && n.redo != n.l.End() {
		n.t.Fatalf("no record begins at %d", n.redo)
	}
	wantAgain(n.t, "a node", n.p, n.l, n.redo, len(places)-i)
	d, err := disk.New(nodePages * api.PageSectors)
	n.ok("disk.New", err)
	s, err := store.New(d, 0, nodePages, 1)
	n.ok("store.New", err)
	anew, err := pool.New(s, n.l, pool.Most)
	n.ok("pool.New", err)
	wantAgain(n.t, "an empty pool", anew, n.l, 1, len(places))
	for id, want := range versions(n.t, anew) {
		if text, lsn, err := n.p.Get(id); text != want.text || lsn != want.lsn || err != api.OK {
			n.t.Errorf("page %d is of the record %d, error %d; want %d", id, lsn, err, want.lsn)
		}
	}
}

// wentOn is the table of the last check on, which is that of the first record on.
func (n *node) wentOn() []api.Active {
	n.t.Helper()
	if many := len(n.checks); many > 0 && redo.Check(n.l) != n.checks[many-1] {
		n.t.Errorf("Check: %d, want %d", redo.Check(n.l), n.checks[many-1])
	}
	table, err := redo.Table(n.l, redo.Check(n.l))
	n.ok("Table", err)
	wantTable(n.t, "a start", n.l, 0, table...)
	for _, check := range n.checks {
		wantTable(n.t, "a start", n.l, check, table...)
	}
	return table
}

// wantCommitted holds the tree against what was committed; nobody may go on.
func (n *node) wantCommitted() {
	n.t.Helper()
	var want []api.Cell
	for _, key := range slices.Sorted(maps.Keys(n.committed)) {
		if w := n.committed[key]; w.is {
			want = append(want, api.Cell{Key: key, Val: w.val})
		}
	}
	if got, err := n.x.Scan("", "", 1<<20); !slices.Equal(got, want) || err != api.OK {
		n.t.Errorf("the tree has %q, error %d; want %q", got, err, want)
	}
	if !n.x.Check() {
		n.t.Error("the tree is none")
	}
	if got := redo.Commits(n.l, n.l.End()); !slices.Equal(got, n.commits) {
		n.t.Errorf("Commits: %v, want %v", got, n.commits)
	}
	wantTable(n.t, "nobody goes on", n.l, 0)
}

// Behind losses of power a node has what was committed, and nobody goes on.
func TestNodes(t *testing.T) {
	for seed := range 12 {
		n := newNode(t, seed)
		for range 6 {
			for i := range 50 + n.rng.Intn(60) {
				n.step()
				if i%4 == 0 {
					n.wantTables()
				}
			}
			n.loss()
			n.wantCommitted()
			if t.Failed() {
				t.Fatalf("seed %d", seed)
			}
		}
	}
}

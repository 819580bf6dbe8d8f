package engine_test

import (
	"fmt"
	"slices"
	"strings"
	"testing"

	"gharry/api"
	"gharry/base"
	"gharry/disk"
	"gharry/engine"
	"gharry/pool"
	"gharry/rec"
	"gharry/redo"
	"gharry/store"
	"gharry/tree"
	"gharry/wal"
)

const (
	roomy     = 4001 // sectors: room for whatever a test does
	manyCells = 1 << 20
)

func insert(txn, page int, key, val string) api.Rec {
	return api.Rec{Kind: api.RecInsert, Txn: txn, Page: page, Key: key, New: val}
}

func commit(txn int) api.Rec { return api.Rec{Kind: api.RecCommit, Txn: txn} }

func end(txn int) api.Rec { return api.Rec{Kind: api.RecEnd, Txn: txn} }

func epoch(epoch, node int) api.Rec {
	return api.Rec{Kind: api.RecEpoch, Epoch: epoch, Node: node}
}

func behind(prev int, r api.Rec) api.Rec {
	r.Prev = prev
	return r
}

// framed is records as a log has them.
func framed(records ...api.Rec) string {
	var s strings.Builder
	for _, r := range records {
		f, err := rec.Frame(r)
		if err != api.OK {
			panic(err)
		}
		s.WriteString(f)
	}
	return s.String()
}

// cells are told by keys and values by turns.
func cells(texts ...string) []api.Cell {
	var l []api.Cell
	for i := 0; i < len(texts); i += 2 {
		l = append(l, api.Cell{Key: texts[i], Val: texts[i+1]})
	}
	return l
}

func text(c byte, many int) string { return strings.Repeat(string(rune(c)), many) }

func ok(t testing.TB, what string, err api.Errno) {
	t.Helper()
	if err != api.OK {
		t.Fatalf("%s: error %d", what, err)
	}
}

func wantErr(t testing.TB, what string, got, want api.Errno) {
	t.Helper()
	if got != want {
		t.Errorf("%s: error %d, want %d", what, got, want)
	}
}

func newDisk(t testing.TB, sectors int) *disk.Disk {
	t.Helper()
	d, err := disk.New(sectors)
	ok(t, "disk.New", err)
	return d
}

// sectorsOf is all that a disk has.
func sectorsOf(t testing.TB, d *disk.Disk) string {
	t.Helper()
	var all strings.Builder
	for i := range d.Size() {
		s, err := d.Read(i)
		ok(t, "disk: Read", err)
		all.WriteString(s)
	}
	return all.String()
}

// copyOf is another disk that has the same, whether that one has power or not.
func copyOf(t testing.TB, d *disk.Disk) *disk.Disk {
	t.Helper()
	if !d.Up() {
		ok(t, "disk: Start", d.Start())
	}
	c := newDisk(t, d.Size())
	for i := range d.Size() {
		s, err := d.Read(i)
		ok(t, "disk: Read", err)
		if strings.Trim(s, "\x00") != "" {
			ok(t, "disk: Write", c.Write(i, s))
		}
	}
	ok(t, "disk: Sync", c.Sync())
	return c
}

// bench is a node's disk, and its engine.
type bench struct {
	t      testing.TB
	frames int
	d      *disk.Disk
	g      *engine.Engine
}

// newBench is a node that was formatted, and started.
func newBench(t testing.TB, sectors, node, seen, frames int) *bench {
	t.Helper()
	b := &bench{t: t, frames: frames, d: newDisk(t, sectors)}
	b.ok("Format", engine.Format(b.d, node, seen))
	b.start()
	return b
}

// led is the node 0, which leads the epoch 1, with room for whatever is done.
func led(t testing.TB) *bench {
	t.Helper()
	b := newBench(t, roomy, 0, 0, 64)
	b.lead(1)
	return b
}

// followed is the node 1, which has taken all of another one's log that lasts.
func followed(t testing.TB, by *bench) *bench {
	t.Helper()
	b := newBench(t, roomy, 1, 0, 64)
	b.takeFrom(by)
	return b
}

// started is a node of whose disk one was given, so that this one is left as it is.
func started(t testing.TB, d *disk.Disk, frames int) *bench {
	t.Helper()
	b := &bench{t: t, frames: frames, d: copyOf(t, d)}
	b.start()
	return b
}

func (b *bench) ok(what string, err api.Errno) {
	b.t.Helper()
	ok(b.t, what, err)
}

// start starts the node; what was in memory is gone.
func (b *bench) start() {
	b.t.Helper()
	if !b.d.Up() {
		b.ok("disk: Start", b.d.Start())
	}
	var err api.Errno
	b.g, err = engine.Start(b.d, b.frames)
	b.ok("Start", err)
}

func (b *bench) crash(keep uint64) {
	b.t.Helper()
	b.ok("Crash", b.d.Crash(keep))
}

func (b *bench) lead(epoch int) {
	b.t.Helper()
	b.ok("Lead", b.g.Lead(epoch))
}

func (b *bench) begin() int {
	b.t.Helper()
	id, err := b.g.Begin()
	b.ok("Begin", err)
	return id
}

func (b *bench) put(id int, key, val string) {
	b.t.Helper()
	_, err := b.g.Put(id, key, val)
	b.ok("Put "+key, err)
}

func (b *bench) remove(id int, key string) {
	b.t.Helper()
	_, err := b.g.Delete(id, key)
	b.ok("Delete "+key, err)
}

func (b *bench) commit(id int) int {
	b.t.Helper()
	at, err := b.g.Commit(id)
	b.ok("Commit", err)
	return at
}

// committed gives keys values (by turns) in a transaction of their own.
func (b *bench) committed(texts ...string) {
	b.t.Helper()
	id := b.begin()
	for _, c := range cells(texts...) {
		b.put(id, c.Key, c.Val)
	}
	b.commit(id)
}

// open is a transaction that goes on: it has turned a, put z, and taken b away.
func (b *bench) open() int {
	b.t.Helper()
	id := b.begin()
	b.put(id, "a", "open")
	b.put(id, "z", "open")
	b.remove(id, "b")
	return id
}

func (b *bench) take(records ...api.Rec) {
	b.t.Helper()
	b.ok("Take", b.g.Take(framed(records...)))
}

// takeFrom takes all of another one's log that it has not, if its own is a beginning.
func (b *bench) takeFrom(by *bench) {
	b.t.Helper()
	s, err := by.g.Log().From(b.g.Log().End(), 1<<30)
	b.ok("wal: From", err)
	b.ok("Take", b.g.Take(s))
}

// add appends a record to the log by itself: where.
func (b *bench) add(r api.Rec) int {
	b.t.Helper()
	at, err := b.g.Log().Append(r)
	b.ok("wal: Append", err)
	return at
}

// fill leaves so many bytes of the log, by records that nobody minds.
func (b *bench) fill(left int) {
	b.t.Helper()
	small, great := api.Rec{Kind: api.RecShape}, end(0)
	for b.g.Log().Left() > left {
		r := great
		if (b.g.Log().Left()-left)%len(framed(great)) != 0 {
			r = small
		}
		b.add(r)
	}
	b.ok("wal: Flush", b.g.Log().Flush())
	if b.g.Log().Left() != left {
		b.t.Fatalf("the log has %d left, want %d", b.g.Log().Left(), left)
	}
}

// records are the log's kinds of records from a place on.
func (b *bench) kinds(from int) []int {
	b.t.Helper()
	var kinds []int
	records, places := b.g.Log().Records()
	for i, r := range records {
		if places[i] >= from {
			kinds = append(kinds, r.Kind)
		}
	}
	return kinds
}

func (b *bench) wantKinds(what string, from int, want ...int) {
	b.t.Helper()
	if got := b.kinds(from); !slices.Equal(got, want) {
		b.t.Errorf("%s: records %v, want %v", what, got, want)
	}
}

func (b *bench) wantBase(what string, want base.Base) {
	b.t.Helper()
	if got := b.g.Base(); got != want {
		b.t.Errorf("%s: base %+v, want %+v", what, got, want)
	}
	if got, err := base.Load(b.d); got != want || err != api.OK || len(b.d.Waiting()) > 0 {
		b.t.Errorf("%s: saved is %+v, error %d, want %+v", what, got, err, want)
	}
}

func (b *bench) wantRead(what, key, val string, is bool) {
	b.t.Helper()
	if got, has, err := b.g.Read(key); got != val || has != is || err != api.OK {
		b.t.Errorf("%s: Read(%q): %q, %v, error %d, want %q, %v", what, key, got, has, err, val, is)
	}
}

func (b *bench) wantList(what, lo, hi string, most int, want ...api.Cell) {
	b.t.Helper()
	if got, err := b.g.List(lo, hi, most); !slices.Equal(got, want) || err != api.OK {
		b.t.Errorf("%s: List(%q, %q, %d): %q, error %d, want %q", what, lo, hi, most, got, err, want)
	}
}

// wantCells holds all that was committed against cells; each is read by its key, too.
func (b *bench) wantCells(what string, want ...api.Cell) {
	b.t.Helper()
	b.wantList(what, "", "", manyCells, want...)
	for _, c := range want {
		b.wantRead(what, c.Key, c.Val, true)
	}
	if !b.g.Whole() {
		b.t.Errorf("%s: the tree is none", what)
	}
}

// version is a page as it is, and the record that made it so.
type version struct {
	text string
	lsn  int
}

// made are the pages that a log's records make from the first one on.
func made(t testing.TB, l *wal.Log, pages int) []version {
	t.Helper()
	s, err := store.New(newDisk(t, pages*api.PageSectors), 0, pages, 1)
	ok(t, "store.New", err)
	p, err := pool.New(s, l, pool.Most)
	ok(t, "pool.New", err)
	_, err = redo.Again(p, l, 1)
	ok(t, "redo.Again", err)
	return versions(t, pages, p.Get)
}

// versions are pages as they are told; what is not there has no text.
func versions(t testing.TB, pages int, get func(id int) (string, int, api.Errno)) []version {
	t.Helper()
	var all []version
	for id := range pages {
		text, lsn, err := get(id)
		if err != api.ErrNone {
			ok(t, "a page", err)
		}
		all = append(all, version{text, lsn})
	}
	return all
}

// stored are the pages as the disk has them.
func (b *bench) stored() []version {
	b.t.Helper()
	_, home, pages := base.Plan(b.d.Size())
	s, err := store.New(b.d, home, pages, b.g.Base().Gen)
	b.ok("store.New", err)
	return versions(b.t, pages, s.Read)
}

// lacking is how many pages the disk has not as the log makes them.
func (b *bench) lacking() int {
	b.t.Helper()
	_, _, pages := base.Plan(b.d.Size())
	want, got, many := made(b.t, b.g.Log(), pages), b.stored(), 0
	for id := range want {
		if want[id] != got[id] {
			many++
		}
	}
	return many
}

// wantCovered asks whether each page that a record turns stood in the log as a whole since
// the last check.
func wantCovered(t testing.TB, what string, l *wal.Log) {
	t.Helper()
	whole := map[int]bool{}
	records, places := l.Records()
	for i, r := range records {
		switch r.Kind {
		case api.RecCheck:
			clear(whole)
		case api.RecFull, api.RecShape:
			for _, image := range r.Images {
				whole[image.Page] = true
			}
		case api.RecInsert, api.RecDelete, api.RecUpdate, api.RecUndo:
			if !whole[r.Page] {
				t.Errorf("%s: page %d is turned at %d, and was not whole", what, r.Page, places[i])
			}
		}
	}
}

// face is all that an engine tells, and all that its disk has.
func (b *bench) face() string {
	b.t.Helper()
	g := b.g
	all, err := g.List("", "", manyCells)
	l := g.Log()
	return fmt.Sprint(g.Up(), g.Leads(), g.Base(), g.Whole(), g.Redone(), g.Going(), all, err,
		l.End(), l.Durable(), l.Run(), b.d.Acts(), b.d.Up(), sectorsOf(b.t, b.d))
}

// wantSame asks whether something changed nothing. That holds of a bench alone whose
// frames have room for all pages: else it writes some, when it is looked at.
func (b *bench) wantSame(what string, do func()) {
	b.t.Helper()
	before := b.face()
	do()
	if after := b.face(); after != before {
		b.t.Errorf("%s: something has changed", what)
	}
}

// call is a call that can be refused.
type call struct {
	what string
	do   func(g *engine.Engine) api.Errno
}

// transactionCalls are those of one who leads; each tells its zero values beside an error,
// which is told as a panic if they are others.
func transactionCalls(id int) []call {
	zero := func(is bool, err api.Errno) api.Errno {
		if err != api.OK && !is {
			panic("there is something beside an error")
		}
		return err
	}
	return []call{
		{"Begin", func(g *engine.Engine) api.Errno { n, err := g.Begin(); return zero(n == 0, err) }},
		{"Get", func(g *engine.Engine) api.Errno { v, is, err := g.Get(id, "a"); return zero(v == "" && !is, err) }},
		{"Put", func(g *engine.Engine) api.Errno { is, err := g.Put(id, "a", "v"); return zero(!is, err) }},
		{"Delete", func(g *engine.Engine) api.Errno { is, err := g.Delete(id, "a"); return zero(!is, err) }},
		{"Scan", func(g *engine.Engine) api.Errno { l, err := g.Scan(id, "", "", 9); return zero(len(l) == 0, err) }},
		{"Save", func(g *engine.Engine) api.Errno { n, err := g.Save(id); return zero(n == 0, err) }},
		{"Back", func(g *engine.Engine) api.Errno { return g.Back(id, 0) }},
		{"Commit", func(g *engine.Engine) api.Errno { n, err := g.Commit(id); return zero(n == 0, err) }},
		{"Abort", func(g *engine.Engine) api.Errno { return g.Abort(id) }},
	}
}

// standbyCalls are those of one who follows.
func standbyCalls() []call {
	return []call{
		{"Take", func(g *engine.Engine) api.Errno { return g.Take("") }},
		{"Take of what is none", func(g *engine.Engine) api.Errno { return g.Take("x") }},
		{"Cut", func(g *engine.Engine) api.Errno { return g.Cut(1) }},
		{"Cut at no place", func(g *engine.Engine) api.Errno { return g.Cut(-1) }},
	}
}

// otherCalls are those that do not hang on who leads.
func otherCalls() []call {
	return []call{
		{"See", func(g *engine.Engine) api.Errno { return g.See(1 << 30) }},
		{"See of nothing new", func(g *engine.Engine) api.Errno { return g.See(-1) }},
		{"Join", func(g *engine.Engine) api.Errno { return g.Join(1 << 30) }},
		{"Join of nothing new", func(g *engine.Engine) api.Errno { return g.Join(-1) }},
		{"Lead", func(g *engine.Engine) api.Errno { return g.Lead(1<<31 - 1) }},
		{"Lead of no epoch", func(g *engine.Engine) api.Errno { return g.Lead(0) }},
		{"Check", func(g *engine.Engine) api.Errno { return g.Check() }},
		{"Flush", func(g *engine.Engine) api.Errno { return g.Flush() }},
		{"Read", func(g *engine.Engine) api.Errno {
			if v, is, err := g.Read("a"); v == "" && !is {
				return err
			}
			return api.OK
		}},
		{"Read of no key", func(g *engine.Engine) api.Errno { _, _, err := g.Read(""); return err }},
		{"List", func(g *engine.Engine) api.Errno {
			if l, err := g.List("", "", 9); len(l) == 0 {
				return err
			}
			return api.OK
		}},
		{"List of no range", func(g *engine.Engine) api.Errno { _, err := g.List("b", "a", -1); return err }},
	}
}

// wantRefused asks all that can be refused.
func wantRefused(t testing.TB, what string, g *engine.Engine, want api.Errno) {
	t.Helper()
	for _, c := range slices.Concat(transactionCalls(1), standbyCalls(), otherCalls()) {
		wantErr(t, what+": "+c.what, c.do(g), want)
	}
}

// wantDead asks whether a node goes on no more, though its disk has power.
func (b *bench) wantDead(what string) {
	b.t.Helper()
	if !b.d.Up() {
		b.ok("disk: Start", b.d.Start())
	}
	if b.g.Up() {
		b.t.Errorf("%s: up", what)
	}
	wantRefused(b.t, what, b.g, api.ErrDown)
}

// damage turns a page into none, and lets that last.
func (b *bench) damage(id int) {
	b.t.Helper()
	_, home, pages := base.Plan(b.d.Size())
	s, err := store.New(b.d, home, pages, b.g.Base().Gen)
	b.ok("store.New", err)
	b.ok("store: Write", s.Write(id, text('x', api.PageBytes), b.g.Log().End()))
	b.ok("store: Sync", s.Sync())
}

// rootOf is a log's record that makes a tree of an empty leaf, as a tree does it.
func rootOf(t testing.TB) api.Rec {
	t.Helper()
	d := newDisk(t, 100)
	l, err := wal.Open(d, 0, 50, 1)
	ok(t, "wal.Open", err)
	s, err := store.New(d, 50, 2, 1)
	ok(t, "store.New", err)
	p, err := pool.New(s, l, 2)
	ok(t, "pool.New", err)
	ok(t, "Create", tree.New(p, l).Create())
	r, _, err := l.Read(1)
	ok(t, "wal: Read", err)
	return r
}

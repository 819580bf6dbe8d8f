package tree_test

import (
	"cmp"
	"maps"
	"math/rand"
	"slices"
	"strings"
	"testing"

	"gharry/api"
	"gharry/disk"
	"gharry/page"
	"gharry/pool"
	"gharry/store"
	"gharry/tree"
	"gharry/wal"
)

const (
	gen        = 2
	plentyLog  = 3000 // sectors
	roomForAll = 220
)

// bench is a tree with all that it stands on, and a plain record of its cells.
type bench struct {
	t          *testing.T
	frames     int
	pages      int
	logSectors int
	d          *disk.Disk
	l          *wal.Log
	s          *store.Store
	p          *pool.Pool
	x          *tree.Tree
	cells      map[string]string
	guard      func(what string, call func() api.Errno) api.Errno // does each call of a step; nil: it is just done
}

// newBench has its log from the first sector on, and its pages behind it. There is no tree yet.
func newBench(t *testing.T, frames, pages, logSectors int) *bench {
	t.Helper()
	b := &bench{t: t, frames: frames, pages: pages, logSectors: logSectors, cells: map[string]string{}}
	d, err := disk.New(logSectors + pages*api.PageSectors)
	if err != api.OK {
		t.Fatalf("disk.New: error %d", err)
	}
	b.d = d
	b.open(1)
	return b
}

// newTree is a bench with an empty tree.
func newTree(t *testing.T, frames, pages int) *bench {
	t.Helper()
	b := newBench(t, frames, pages, plentyLog)
	b.ok("Create", b.x.Create())
	return b
}

// open finds log and pages on the disk again, in a run; of what was in memory nothing is left.
func (b *bench) open(run int) {
	b.t.Helper()
	var err api.Errno
	b.l, err = wal.Open(b.d, 0, b.logSectors, run)
	b.ok("wal.Open", err)
	b.s, err = store.New(b.d, b.logSectors, b.pages, gen)
	b.ok("store.New", err)
	b.p, err = pool.New(b.s, b.l, b.frames)
	b.ok("pool.New", err)
	b.anew()
}

// anew is another tree in the same pages: it has laid none of them.
func (b *bench) anew() {
	b.t.Helper()
	if b.x = tree.New(b.p, b.l); b.x == nil {
		b.t.Fatal("New: nil")
	}
}

func (b *bench) ok(what string, err api.Errno) {
	b.t.Helper()
	if err != api.OK {
		b.t.Fatalf("%s: error %d", what, err)
	}
}

func wantErr(t *testing.T, what string, got, want api.Errno) {
	t.Helper()
	if got != want {
		t.Errorf("%s: error %d, want %d", what, got, want)
	}
}

func (b *bench) append(r api.Rec) int {
	b.t.Helper()
	at, err := b.l.Append(r)
	b.ok("wal: Append", err)
	return at
}

// do does a call of a step.
func (b *bench) do(what string, call func() api.Errno) api.Errno {
	if b.guard == nil {
		return call()
	}
	return b.guard(what, call)
}

// change covers a leaf, and does an act on it by a record of its own.
func (b *bench) change(id, act int, key, val string) api.Errno {
	if err := b.do("Cover", func() api.Errno { return b.x.Cover(id) }); err != api.OK {
		return err
	}
	at, err := b.l.Append(api.Rec{Kind: act, Txn: 1, Page: id, Key: key, Old: b.cells[key], New: val})
	if err != api.OK {
		return err
	}
	return b.do("Change", func() api.Errno { return b.x.Change(id, at, act, api.Cell{Key: key, Val: val}) })
}

// put lets a key have a value, as a transaction does it.
func (b *bench) put(key, val string) api.Errno {
	var id int
	err := b.do("Place", func() (err api.Errno) {
		id, err = b.x.Place(key, page.Need(api.Cell{Key: key, Val: val}))
		return err
	})
	if err != api.OK {
		return err
	}
	act := api.RecInsert
	if _, is := b.cells[key]; is {
		act = api.RecUpdate
	}
	if err := b.change(id, act, key, val); err != api.OK {
		return err
	}
	b.cells[key] = val
	return api.OK
}

// drop takes a key away, and does not tidy yet.
func (b *bench) drop(key string) api.Errno {
	var id int
	err := b.do("Leaf", func() (err api.Errno) {
		id, err = b.x.Leaf(key)
		return err
	})
	if err != api.OK {
		return err
	}
	if err := b.change(id, api.RecDelete, key, ""); err != api.OK {
		return err
	}
	delete(b.cells, key)
	return api.OK
}

func (b *bench) del(key string) api.Errno {
	if err := b.drop(key); err != api.OK {
		return err
	}
	return b.do("Tidy", func() api.Errno { return b.x.Tidy(key) })
}

func (b *bench) puts(cells ...api.Cell) {
	b.t.Helper()
	for _, c := range cells {
		b.ok("put "+c.Key, b.put(c.Key, c.Val))
	}
}

// turn is one step of a script: a put, or, if the value is a dash, a delete of a key that is there.
func (b *bench) turn(c api.Cell) api.Errno {
	if c.Val != "-" {
		return b.put(c.Key, c.Val)
	}
	if _, is := b.cells[c.Key]; !is {
		return api.OK
	}
	return b.del(c.Key)
}

// script is steps in which the tree grows and shrinks, with keys and values of all lengths.
func script(seed int64, steps, keys int) []api.Cell {
	r := rand.New(rand.NewSource(seed))
	var known []string
	for range keys {
		key := make([]byte, 1+r.Intn(api.MaxKey))
		for i := range key {
			key[i] = "abcxyz\x00\xff"[r.Intn(8)]
		}
		known = append(known, string(key))
	}
	var l []api.Cell
	for i := range steps {
		c := api.Cell{Key: known[r.Intn(keys)], Val: strings.Repeat("v", r.Intn(api.MaxValue+1))}
		shrinks := i*4/steps%2 == 1
		if r.Intn(10) < 3 || shrinks && r.Intn(10) < 7 {
			c.Val = "-"
		}
		l = append(l, c)
	}
	return l
}

// rising is the plain record as a list.
func (b *bench) rising() []api.Cell {
	var l []api.Cell
	for _, key := range slices.Sorted(maps.Keys(b.cells)) {
		l = append(l, api.Cell{Key: key, Val: b.cells[key]})
	}
	return l
}

// leafSeen is a leaf as the pages tell it: its keys may be not lesser than lo, and lesser than hi.
type leafSeen struct {
	id     int
	lo, hi string
	cells  []api.Cell
}

// seen is a tree as the pages of a pool tell it, read by the document's words alone.
type seen struct {
	wrong  string // why the pages are no tree
	root   int
	height int
	used   map[int]bool
	inner  []int
	leaves []leafSeen
}

func look(p *pool.Pool) *seen {
	s := &seen{used: map[int]bool{}}
	text, _, err := p.Get(0)
	if err != api.OK || text == "" {
		s.wrong = "page 0 is not there"
		return s
	}
	s.root = int(text[0])<<8 + int(text[1])
	told := map[int]bool{}
	for i := range 8 * (len(text) - 2) {
		if text[2+i/8]&(1<<(i%8)) != 0 {
			told[i] = true
		}
	}
	s.used[0] = true
	s.page(p, s.root, -1, "", "")
	if s.wrong == "" && !maps.Equal(told, s.used) {
		s.wrong = "other pages are used than are in the tree"
	}
	return s
}

func (s *seen) page(p *pool.Pool, id, level int, lo, hi string) {
	text, _, err := p.Get(id)
	switch {
	case s.wrong != "":
		return
	case err != api.OK || id == 0 || !page.Right(text) || page.Kind(text) == page.Free:
		s.wrong = "a page that is none"
		return
	case s.used[id]:
		s.wrong = "a page twice"
		return
	case level >= 0 && page.Level(text) != level:
		s.wrong = "a page of another level"
		return
	}
	s.used[id] = true
	if level < 0 {
		s.height = page.Level(text) + 1
	}
	cells := page.Cells(text)
	inner := page.Kind(text) == page.Inner
	for i, c := range cells {
		if inner && i == 0 {
			if c.Key != "" {
				s.wrong = "a leftmost key that is not empty"
			}
			continue
		}
		if c.Key < lo || hi != "" && c.Key >= hi {
			s.wrong = "a key where it does not belong"
		}
	}
	if !inner {
		s.leaves = append(s.leaves, leafSeen{id, lo, hi, cells})
		return
	}
	if page.Level(text) == 0 || len(cells) == 0 {
		s.wrong = "an inner page that is above nothing"
		return
	}
	s.inner = append(s.inner, id)
	for i, c := range cells {
		if len(c.Val) != 2 {
			s.wrong = "a cell that tells no page"
			return
		}
		from, to := lo, hi
		if i > 0 {
			from = c.Key
		}
		if i+1 < len(cells) {
			to = cells[i+1].Key
		}
		s.page(p, int(c.Val[0])<<8+int(c.Val[1]), page.Level(text)-1, from, to)
	}
}

func (s *seen) leafOf(key string) leafSeen {
	for _, l := range s.leaves {
		if key >= l.lo && (l.hi == "" || key < l.hi) {
			return l
		}
	}
	return leafSeen{}
}

func (s *seen) ids() []int {
	var ids []int
	for _, l := range s.leaves {
		ids = append(ids, l.id)
	}
	return ids
}

// wantTree holds all that the tree tells against the plain record, and against its pages.
func (b *bench) wantTree() {
	b.t.Helper()
	s := look(b.p)
	if s.wrong != "" || !b.x.Check() || !b.x.Born() {
		b.t.Fatalf("no tree: %q, Check %v, Born %v", s.wrong, b.x.Check(), b.x.Born())
	}
	if got := b.x.Height(); got != s.height {
		b.t.Errorf("Height: %d, want %d", got, s.height)
	}
	if got := b.x.Free(); got != b.pages-len(s.used) {
		b.t.Errorf("Free: %d, want %d", got, b.pages-len(s.used))
	}
	b.wantCells()
	for _, c := range b.rising() {
		for _, key := range []string{c.Key, c.Key + "\x00", c.Key[:len(c.Key)-1]} {
			b.wantLeaf(s, key)
			b.wantGet(key)
		}
	}
	b.wantLeaf(s, "")
	b.wantLeaf(s, "\xff\xff\xff\xff\xff\xff\xff\xff\xff\xff\xff\xff\xff\xff\xff\xff\xff\xff")
}

// wantCells asks for what the tree has, and no more: so while pages may be late.
func (b *bench) wantCells() {
	b.t.Helper()
	b.wantScan("", "", 1<<20)
	for key := range b.cells {
		b.wantGet(key)
	}
}

func (b *bench) wantLeaf(s *seen, key string) {
	b.t.Helper()
	if id, err := b.x.Leaf(key); id != s.leafOf(key).id || err != api.OK {
		b.t.Errorf("Leaf(%q): %d, error %d; want %d", key, id, err, s.leafOf(key).id)
	}
}

func (b *bench) wantGet(key string) {
	b.t.Helper()
	want, there := b.cells[key]
	if val, is, err := b.x.Get(key); val != want || is != there || err != api.OK {
		b.t.Errorf("Get(%q): %q, %v, error %d; want %q, %v", key, val, is, err, want, there)
	}
}

func (b *bench) wantScan(lo, hi string, most int) {
	b.t.Helper()
	var want []api.Cell
	for _, c := range b.rising() {
		if c.Key >= lo && (hi == "" || c.Key <= hi) && len(want) < most {
			want = append(want, c)
		}
	}
	if got, err := b.x.Scan(lo, hi, most); !slices.Equal(got, want) || err != api.OK {
		b.t.Errorf("Scan(%q, %q, %d): %q, error %d; want %q", lo, hi, most, got, err, want)
	}
}

// version is a page, and its record.
type version struct {
	text string
	lsn  int
}

func versions(t *testing.T, p *pool.Pool) []version {
	t.Helper()
	var l []version
	for id := range p.Pages() {
		text, lsn, err := p.Get(id)
		if err != api.OK {
			t.Fatalf("pool: Get(%d): error %d", id, err)
		}
		l = append(l, version{text, lsn})
	}
	return l
}

// face is all that can be told of a tree, its pages and its log.
type face struct {
	pages             []version
	cells             []api.Cell
	end, height, free int
	redo              int
	born, check       bool
	dirty             []api.Dirty
}

func (b *bench) face() face {
	b.t.Helper()
	f := face{redo: b.x.Redo(), dirty: b.p.Table(), pages: versions(b.t, b.p), end: b.l.End()}
	f.height, f.free, f.born, f.check = b.x.Height(), b.x.Free(), b.x.Born(), b.x.Check()
	f.cells, _ = b.x.Scan("", "", 1<<20)
	return f
}

// differs is what two faces have not in common.
func (f face) differs(g face) string {
	switch {
	case !slices.Equal(f.pages, g.pages):
		return "pages"
	case !slices.Equal(f.cells, g.cells):
		return "cells"
	case f.end != g.end:
		return "the log's end"
	case f.height != g.height || f.free != g.free || f.born != g.born || f.check != g.check:
		return "Height, Free, Born or Check"
	case f.redo != g.redo || !slices.Equal(f.dirty, g.dirty):
		return "Redo, or what is dirty"
	}
	return ""
}

// wantUnturned does calls that must leave all as it was. All pages must have room in frames.
func (b *bench) wantUnturned(what string, call func()) {
	b.t.Helper()
	b.face() // takes all pages into frames
	before, acts := b.face(), b.d.Acts()
	call()
	if d := before.differs(b.face()); d != "" || b.d.Acts() != acts {
		b.t.Errorf("%s: changed: %s; %d acts of the disk", what, d, b.d.Acts()-acts)
	}
}

// wantOneRecord does a call that must append just one record of a kind: each of its images
// is the page then, by it, and no other page has changed. It tells the images' pages.
func (b *bench) wantOneRecord(what string, kind int, call func()) []int {
	b.t.Helper()
	before := versions(b.t, b.p)
	_, old := b.l.Records()
	call()
	recs, places := b.l.Records()
	if len(recs) != len(old)+1 || recs[len(recs)-1].Kind != kind {
		b.t.Fatalf("%s: %d records more; want one of kind %d", what, len(recs)-len(old), kind)
	}
	last, at := recs[len(recs)-1], places[len(places)-1]
	var ids []int
	for _, image := range last.Images {
		if slices.Contains(ids, image.Page) {
			b.t.Errorf("%s: page %d is laid twice", what, image.Page)
		}
		ids = append(ids, image.Page)
		before[image.Page] = version{image.Text, at}
	}
	for id, got := range versions(b.t, b.p) {
		if got != before[id] {
			b.t.Errorf("%s: page %d is of the record %d; want %d, as it was laid there, or as it was", what, id, got.lsn, before[id].lsn)
		}
	}
	slices.Sort(ids)
	return ids
}

// fill is a value of so many bytes.
func fill(n int) string { return strings.Repeat("v", n) }

// cellsOf are cells whose keys begin with a text, and which need just so many bytes (0, or 20 and more).
func cellsOf(prefix string, need int) []api.Cell {
	var l []api.Cell
	least := page.Need(api.Cell{Key: prefix + "a"})
	for i := 0; need > 0; i++ {
		n := min(need, least+api.MaxValue)
		if left := need - n; left > 0 && left < least {
			n -= least
		}
		l = append(l, api.Cell{Key: prefix + string(rune('a'+i)), Val: fill(n - least)})
		need -= n
	}
	return l
}

// hand lays pages by hand: texts by their pages, page 0 as it tells the root and that all of them are used.
func (b *bench) hand(root int, texts map[int]string) {
	b.t.Helper()
	head := make([]byte, api.PageBytes)
	head[0], head[1], head[2] = byte(root>>8), byte(root), 1
	for id := range texts {
		head[2+id/8] |= 1 << (id % 8)
	}
	all := maps.Clone(texts)
	if _, is := all[0]; !is {
		all[0] = string(head)
	}
	b.set(all)
	b.cells = map[string]string{}
	for _, text := range texts {
		if page.Kind(text) == page.Leaf {
			for _, c := range page.Cells(text) {
				b.cells[c.Key] = c.Val
			}
		}
	}
}

// set lets pages be texts, whatever they are, by as many records as it must be.
func (b *bench) set(texts map[int]string) {
	b.t.Helper()
	var images []api.Image
	for _, id := range slices.Sorted(maps.Keys(texts)) {
		images = append(images, api.Image{Page: id, Text: texts[id]})
	}
	for some := range slices.Chunk(images, 15) {
		at := b.append(api.Rec{Kind: api.RecShape, Images: some})
		for _, image := range some {
			b.ok("pool: Set", b.p.Set(image.Page, image.Text, at))
		}
	}
}

func made(kind, level int, cells ...api.Cell) string {
	slices.SortFunc(cells, func(x, y api.Cell) int { return cmp.Compare(x.Key, y.Key) })
	text, err := page.Make(kind, level, cells)
	if err != api.OK {
		panic(err)
	}
	return text
}

func leaf(cells ...api.Cell) string { return made(page.Leaf, 0, cells...) }

func inner(level int, cells ...api.Cell) string { return made(page.Inner, level, cells...) }

// to is the cell of a page below.
func to(key string, id int) api.Cell {
	return api.Cell{Key: key, Val: string([]byte{byte(id >> 8), byte(id)})}
}

// again does all of a log's records from a place on, one by one.
func again(t *testing.T, p *pool.Pool, l *wal.Log, from int) {
	t.Helper()
	recs, places := l.Records()
	for i, r := range recs {
		if places[i] < from {
			continue
		}
		if err := tree.Again(p, r, places[i]); err != api.OK {
			t.Fatalf("Again of the record %d of kind %d: error %d", places[i], r.Kind, err)
		}
	}
}

// emptyPool is a pool of pages that were never written, on a disk of its own.
func emptyPool(t *testing.T, l *wal.Log, frames, pages int) *pool.Pool {
	t.Helper()
	d, _ := disk.New(pages * api.PageSectors)
	s, _ := store.New(d, 0, pages, gen)
	p, err := pool.New(s, l, frames)
	if err != api.OK {
		t.Fatalf("pool.New: error %d", err)
	}
	return p
}

// wantRedone asks whether the log's records make the same pages out of nothing.
func (b *bench) wantRedone() {
	b.t.Helper()
	p := emptyPool(b.t, b.l, pool.Most, b.pages)
	again(b.t, p, b.l, 1)
	b.wantSamePages(p)
}

func (b *bench) wantSamePages(p *pool.Pool) {
	b.t.Helper()
	want := versions(b.t, b.p)
	for id, got := range versions(b.t, p) {
		if got != want[id] {
			b.t.Errorf("page %d, done again: %q of the record %d; want %q of %d", id, got.text, got.lsn, want[id].text, want[id].lsn)
		}
	}
}

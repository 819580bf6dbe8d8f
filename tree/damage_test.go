package tree_test

import (
	"math/rand"
	"slices"
	"strings"
	"testing"

	"gharry/api"
	"gharry/page"
)

// Promise 11.3: Check; and what is told of pages that are no tree.

// grove is a tree of three levels: the pages of a clan, and the cells that they have.
func grove(t *testing.T) *bench {
	t.Helper()
	b := newTree(t, 40, 40)
	b.clan([]int{90, 90}, []int{90, 90, 90}, []int{90})
	return b
}

func (b *bench) text(id int) string {
	text, _, _ := b.p.Get(id)
	return text
}

// headWith is page 0 with some bits turned, and another root, if it is not below 0.
func (b *bench) headWith(root int, turned ...int) string {
	head := []byte(b.text(0))
	if root >= 0 {
		head[0], head[1] = byte(root>>8), byte(root)
	}
	for _, i := range turned {
		head[2+i/8] ^= 1 << (i % 8)
	}
	return string(head)
}

// damages turn pages of a grove so that they are no tree: which pages, and a key on whose
// way that is met (none, if no way meets it).
func damages(b *bench) []struct {
	what  string
	texts map[int]string
	key   string
} {
	type damage = struct {
		what  string
		texts map[int]string
		key   string
	}
	at := func(what, key string, id int, text string) damage {
		return damage{what, map[int]string{id: text}, key}
	}
	e1 := page.Cells(b.text(21)) // the keys e1..
	return []damage{
		at("a root that was never written", "d", 0, b.headWith(39)),
		at("a root that was never written, and is used", "d", 0, b.headWith(39, 39)),
		at("a root that nobody uses", "d", 0, b.headWith(-1, 1)),
		at("a root that is page 0", "d", 0, b.headWith(0)),
		at("a root behind all pages", "d", 0, b.headWith(40)),
		at("a root behind all pages, and used", "d", 0, b.headWith(40, 40)),
		at("a root far behind all pages", "d", 0, b.headWith(65535)),
		at("a root that is Free", "d", 1, free()),
		at("a root that is no page", "d", 1, strings.Repeat("\x07", api.PageBytes)),
		at("a root of level 0 that is above others", "d", 1, inner(0, to("", 2), to("e", 3), to("f", 4))),
		at("a root one level too high", "d", 1, inner(3, to("", 2), to("e", 3), to("f", 4))),
		at("a root one level too low", "d", 1, inner(1, to("", 2), to("e", 3), to("f", 4))),
		at("a root without cells", "d", 1, inner(2)),
		at("a root with a first key", "d", 1, inner(2, to("a", 2), to("e", 3), to("f", 4))),
		at("a root that has page 0 below", "d", 1, inner(2, to("", 0), to("e", 3), to("f", 4))),
		at("a root that has itself below", "d", 1, inner(2, to("", 1), to("e", 3), to("f", 4))),
		at("a root with a number of one byte", "d", 1, inner(2, api.Cell{Val: "\x02"}, to("e", 3), to("f", 4))),
		at("a root with a number of three bytes", "d", 1, inner(2, api.Cell{Val: "\x00\x02\x00"}, to("e", 3), to("f", 4))),
		at("a root with no number", "d", 1, inner(2, api.Cell{}, to("e", 3), to("f", 4))),
		at("a root with a page behind all others", "d", 1, inner(2, to("", 40), to("e", 3), to("f", 4))),
		at("a root with a page of another level", "f", 1, inner(2, to("", 2), to("e", 3), to("f", 30))),
		at("a root with a page less", "", 1, inner(2, to("", 2), to("e", 3))),
		at("a root with a page twice", "f", 1, inner(2, to("", 2), to("e", 3), to("f", 3))),
		at("a page above with a first key", "e", 3, inner(1, to("e", 20), to("e1", 21), to("e2", 22))),
		at("a page above with a key that is too great", "e", 3, inner(1, to("", 20), to("e1", 21), to("f", 22))),
		at("a page above with a key that is too little", "e", 3, inner(1, to("", 20), to("d9", 21), to("e2", 22))),
		at("a page above without cells", "e", 3, inner(1)),
		at("a page above that is a leaf", "e", 3, leaf()),
		at("a leaf that is Free", "e1", 21, free()),
		at("a leaf that is an inner page", "e1", 21, inner(0)),
		at("a leaf with a key that is too little", "e1", 21, leaf(append(slices.Clone(e1), api.Cell{Key: "e0z"})...)),
		at("a leaf with a key that is too great", "e1", 21, leaf(append(slices.Clone(e1), api.Cell{Key: "e2"})...)),
		at("a first leaf with a key that is too great", "c", 10, leaf(api.Cell{Key: "d1"})),
		at("a last leaf with a key that is too little", "f", 30, leaf(api.Cell{Key: "e9"})),
		at("a leaf that nobody uses", "e1", 0, b.headWith(-1, 21)),
		at("a page above that nobody uses", "e", 0, b.headWith(-1, 3)),
		at("a page that is used, and not in the tree", "", 0, b.headWith(-1, 38)),
		at("a page that is used, and was never written", "", 0, b.headWith(-1, 39)),
		at("page 0 that is not used", "", 0, b.headWith(-1, 0)),
		at("a page behind all others that is used", "", 0, b.headWith(-1, 40)),
		at("a page far behind all others that is used", "", 0, b.headWith(-1, 8*222-1)),
		{"two leaves in each other's place", map[int]string{21: b.text(22), 22: b.text(21)}, "e1"},
		{"a leaf twice", map[int]string{3: inner(1, to("", 20), to("e1", 21), to("e2", 21)), 21: leaf(), 0: b.headWith(-1, 22)}, ""},
	}
}

func TestDamage(t *testing.T) {
	for i := range damages(grove(t)) {
		b := grove(t)
		if !b.x.Check() {
			t.Fatal("Check of a tree: false")
		}
		d := damages(b)[i]
		b.set(d.texts)
		b.wantUnturned(d.what, func() {
			if b.x.Check() {
				t.Errorf("Check: true")
			}
			if look(b.p).wrong == "" {
				t.Errorf("the test's own eyes see a tree")
			}
			want := api.ErrDamage
			if d.key == "" {
				want = api.OK
			}
			key := d.key + "5"
			val, is, err := b.x.Get(key)
			if val != "" || is || err != want {
				t.Errorf("Get: %q, %v, error %d; want error %d", val, is, err, want)
			}
			if want == api.OK {
				return
			}
			if id, err := b.x.Leaf(key); id != 0 || err != want {
				t.Errorf("Leaf: %d, error %d", id, err)
			}
			if id, err := b.x.Place(key, 51); id != 0 || err != want {
				t.Errorf("Place: %d, error %d", id, err)
			}
			if l, err := b.x.Scan("", "", 99); len(l) != 0 || err != want {
				t.Errorf("Scan: %v, error %d", l, err)
			}
			wantErr(t, "Tidy", b.x.Tidy(key), want)
		})
		if t.Failed() {
			t.Fatal(d.what)
		}
	}
}

// Height is told by the leftmost way: 0, if there is none.
func TestHeightOfDamage(t *testing.T) {
	b := grove(t)
	b.set(map[int]string{22: free()})
	if got := b.x.Height(); got != 3 {
		t.Errorf("Height, with damage elsewhere: %d, want 3", got)
	}
	b.set(map[int]string{10: free()})
	if got := b.x.Height(); got != 0 {
		t.Errorf("Height: %d, want 0", got)
	}
}

// A thin leaf, and damage beside it.
func TestTidyBesideDamage(t *testing.T) {
	b := newTree(t, 20, 20)
	b.family(90, 30, 90)
	b.set(map[int]string{4: free()})
	b.wantUnturned("Tidy", func() { wantErr(t, "Tidy", b.x.Tidy("c"), api.ErrDamage) })
	b.family(30, 140, 0)
	b.set(map[int]string{2: free()})
	b.wantUnturned("Tidy", func() { wantErr(t, "Tidy", b.x.Tidy("b"), api.ErrDamage) })
	b.family(0, 90)
	b.set(map[int]string{3: free()})
	b.wantUnturned("Tidy", func() { wantErr(t, "Tidy", b.x.Tidy("b"), api.ErrDamage) })
}

// Page 0 is never taken for another one, though it tells that nobody uses it.
func TestPageZeroIsNotTaken(t *testing.T) {
	b := newTree(t, 20, 20)
	b.hand(1, map[int]string{1: leaf(cellsOf("k", 200)...)})
	b.set(map[int]string{0: b.headWith(-1, 0)})
	_, err := b.x.Place("k", 51)
	b.ok("Place", err)
	b.wantCells()
	if ids := []int{1, 2}; !slices.Equal(b.leavesBelow(3), ids) {
		t.Errorf("the leaves are %v", b.leavesBelow(3))
	}
}

func (b *bench) leavesBelow(id int) []int {
	var ids []int
	for _, c := range page.Cells(b.text(id)) {
		ids = append(ids, int(c.Val[0])<<8+int(c.Val[1]))
	}
	return ids
}

// Each page tells the next one many times over: no call may go all these ways.
func TestManyWaysEnd(t *testing.T) {
	t.Parallel()
	const levels = 60
	for _, cells := range [][]api.Cell{nil, {{Key: "\x01"}}} {
		b := newTree(t, 64, 64)
		texts := map[int]string{1: leaf(cells...)}
		for level := 1; level < levels; level++ {
			var below []api.Cell
			for i := range 30 {
				key := string([]byte{byte(i)})
				if i == 0 {
					key = ""
				}
				below = append(below, to(key, level))
			}
			texts[level+1] = inner(level, below...)
		}
		b.hand(levels, texts)
		if b.x.Check() {
			t.Errorf("Check: true")
		}
		b.all("a")
	}
}

// all does every call, and asks for nothing but that it ends.
func (b *bench) all(key string) {
	b.x.Born()
	b.x.Check()
	b.x.Free()
	b.x.Height()
	b.x.Get(key)
	b.x.Leaf(key)
	b.x.Scan("", "", 1<<20)
	b.x.Scan(key, "", 3)
	b.x.Place(key, 51)
	b.x.Tidy(key)
	b.x.Create()
	for id := -1; id <= b.pages; id++ {
		b.x.Cover(id)
		b.x.Change(id, 1, api.RecInsert, api.Cell{Key: key})
		b.x.Change(id, 1, api.RecUpdate, api.Cell{Key: key, Val: "v"})
		b.x.Change(id, 1, api.RecDelete, api.Cell{Key: key})
	}
	b.x.Redo()
}

// Pages turned at random: Check tells what the test's own eyes see, and each call ends.
func TestRandomDamage(t *testing.T) {
	t.Parallel()
	r := rand.New(rand.NewSource(9))
	trees := 0
	for range 1500 {
		b := newTree(t, 40, 40)
		b.clan([]int{30, 90}, []int{0, 200}, []int{90})
		for range 1 + r.Intn(2) {
			b.turnPage(r)
		}
		right := look(b.p).wrong == ""
		if right {
			trees++
		}
		if got := b.x.Check(); got != right {
			t.Fatalf("Check: %v; the test's own eyes see %q", got, look(b.p).wrong)
		}
		b.all(string([]byte{"cdefg"[r.Intn(5)], '5'}))
	}
	if trees < 50 || trees > 1200 {
		t.Errorf("%d of 1500 were trees", trees)
	}
}

// turnPage changes a page a little: a byte, or a cell of an inner page, or page 0.
func (b *bench) turnPage(r *rand.Rand) {
	ids := []int{0, 1, 2, 3, 4, 10, 11, 20, 21, 30}
	id := ids[r.Intn(len(ids))]
	switch text := b.text(id); r.Intn(3) {
	case 0:
		raw := []byte(text)
		raw[[]int{0, 1, 2, 3, 4, 5, 6, 7, 223, 222, r.Intn(224)}[r.Intn(11)]] ^= 1 << r.Intn(8)
		b.set(map[int]string{id: string(raw)})
	case 1:
		cells := page.Cells(text)
		if len(cells) == 0 {
			return
		}
		cells[r.Intn(len(cells))].Val = to("", r.Intn(41)).Val
		if r.Intn(2) == 0 {
			cells[r.Intn(len(cells))].Key = string([]byte{"cdefg"[r.Intn(5)], "025"[r.Intn(3)]})
		}
		if text, err := page.Make(page.Kind(text), page.Level(text), cells); err == api.OK {
			b.set(map[int]string{id: text})
		}
	case 2:
		b.set(map[int]string{0: b.headWith(-1, r.Intn(41))})
	}
}

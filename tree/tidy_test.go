package tree_test

import (
	"slices"
	"testing"

	"gharry/api"
	"gharry/page"
)

// Promise 11.2: Tidy.

func free() string { return made(page.Free, 0) }

// wantFree asks whether pages went: nobody uses them, and they are Free ones.
func (b *bench) wantFree(ids ...int) {
	b.t.Helper()
	s := look(b.p)
	for _, id := range ids {
		if text, _, _ := b.p.Get(id); text != free() || s.used[id] {
			b.t.Errorf("page %d: kind %d, used: %v", id, page.Kind(text), s.used[id])
		}
	}
}

// family lays leaves whose cells need so many bytes below one page, the root 1: the
// leaves are the pages from 2 on, and have the keys b.., c.., d..
func (b *bench) family(needs ...int) {
	b.t.Helper()
	texts := map[int]string{}
	var above []api.Cell
	for i, need := range needs {
		first := string([]byte{'b' + byte(i)})
		texts[2+i] = leaf(cellsOf(first+"k", need)...)
		if i == 0 {
			first = ""
		}
		above = append(above, to(first, 2+i))
	}
	texts[1] = inner(1, above...)
	b.hand(1, texts)
	b.wantTree()
}

// Which leaves are laid together: the leaf at the place tidied with that at the place
// with; -1: none.
func TestTidyOfThinLeaves(t *testing.T) {
	cases := []struct {
		needs  []int
		tidied int
		with   int
	}{
		{[]int{100, 55, 110}, 1, 2},
		{[]int{100, 55, 111}, 1, 0},
		{[]int{110, 55, 111}, 1, 0},
		{[]int{111, 55, 111}, 1, -1},
		{[]int{20, 55, 20}, 1, 2},
		{[]int{20, 56, 20}, 1, -1},
		{[]int{20, 20, 20}, 1, 2},
		{[]int{20, 20, 145}, 1, 2},
		{[]int{20, 20, 146}, 1, 0},
		{[]int{145, 20, 146}, 1, 0},
		{[]int{146, 20, 146}, 1, -1},
		{[]int{55, 110, 20}, 0, 1},
		{[]int{55, 111, 20}, 0, -1},
		{[]int{56, 20, 20}, 0, -1},
		{[]int{20, 110, 55}, 2, 1},
		{[]int{20, 111, 55}, 2, -1},
		{[]int{20, 20, 56}, 2, -1},
		{[]int{0, 55, 0}, 1, 2},
		{[]int{0, 55, 111}, 1, 0},
		{[]int{20, 200, 20, 20}, 3, 2},
		{[]int{20, 200, 20, 20}, 2, 3},
		{[]int{20, 200, 20, 20}, 1, -1},
		{[]int{20, 200, 20, 20}, 0, -1},
	}
	for _, c := range cases {
		b := newTree(t, 20, 20)
		b.family(c.needs...)
		key := string([]byte{'b' + byte(c.tidied)}) + "z"
		tidy := func() { b.ok("Tidy", b.x.Tidy(key)) }
		if c.with < 0 {
			b.wantUnturned("Tidy", tidy)
			continue
		}
		before := look(b.p)
		left, right := min(c.tidied, c.with), max(c.tidied, c.with)
		ids := b.wantOneRecord("Tidy", api.RecShape, tidy)
		if !slices.Equal(ids, []int{0, 1, 2 + left, 2 + right}) {
			t.Errorf("%v: the pages %v are laid", c, ids)
		}
		both := slices.Concat(before.leaves[left].cells, before.leaves[right].cells)
		above, _ := page.Delete(b.before(1), string([]byte{'b' + byte(right)}))
		b.wantPages(map[int]string{2 + left: leaf(both...), 1: above})
		b.wantFree(2 + right)
		b.wantTree()
		if t.Failed() {
			t.Fatalf("%v", c)
		}
	}
}

// before is a page as it stood in the log ahead of the last record.
func (b *bench) before(id int) string {
	recs, _ := b.l.Records()
	text := ""
	for _, r := range recs[:len(recs)-1] {
		for _, image := range r.Images {
			if image.Page == id {
				text = image.Text
			}
		}
	}
	return text
}

// Of two leaves one is left: it is the root.
func TestTidyOfTwoLeaves(t *testing.T) {
	for _, needs := range [][]int{{55, 110}, {0, 200}, {0, 20}, {0, 0}} {
		for tidied := range 2 {
			b := newTree(t, 20, 20)
			key := string([]byte{'b' + byte(tidied)})
			if tidied == 1 {
				slices.Reverse(needs)
			}
			b.family(needs...)
			left := 2 // two are laid together in the left one
			if needs[tidied] == 0 {
				left = 3 - tidied
			}
			ids := b.wantOneRecord("Tidy", api.RecShape, func() { b.ok("Tidy", b.x.Tidy(key)) })
			if !slices.Contains(ids, 1) || !slices.Contains(ids, 5-left) {
				t.Errorf("the pages %v are laid", ids)
			}
			b.wantTree()
			b.wantFree(1, 5-left)
			if s := look(b.p); s.root != left || b.x.Height() != 1 || b.x.Free() != 18 {
				t.Errorf("%v: root %d, want %d; Height %d, Free %d", needs, s.root, left, b.x.Height(), b.x.Free())
			}
			if tidied == 1 {
				slices.Reverse(needs)
			}
		}
	}
}

func TestTidyOfTwoLeavesThatAreNotThin(t *testing.T) {
	for _, needs := range [][]int{{56, 20}, {56, 109}, {55, 111}} {
		b := newTree(t, 20, 20)
		b.family(needs...)
		b.wantUnturned("Tidy", func() { b.ok("Tidy", b.x.Tidy("")) })
		slices.Reverse(needs)
		b.family(needs...)
		b.wantUnturned("Tidy", func() { b.ok("Tidy", b.x.Tidy("z")) })
	}
}

// The root stays, however empty: what is below nothing has none beside it.
func TestTidyOfARoot(t *testing.T) {
	for _, need := range []int{0, 20, 55, 200} {
		b := newTree(t, 20, 20)
		b.hand(1, map[int]string{1: leaf(cellsOf("k", need)...)})
		b.wantUnturned("Tidy", func() {
			for _, key := range []string{"", "k", "z"} {
				wantErr(t, "Tidy", b.x.Tidy(key), api.OK)
			}
		})
	}
}

// An empty leaf goes: the first one below its page, one in the midst, the last one.
func TestTidyOfEmptyLeaves(t *testing.T) {
	want := [][]api.Cell{
		{to("", 3), to("d", 4), to("e", 5)},
		{to("", 2), to("d", 4), to("e", 5)},
		{to("", 2), to("c", 3), to("e", 5)},
		{to("", 2), to("c", 3), to("d", 4)},
	}
	for i := range 4 {
		for _, key := range []string{"", "a", "z"} {
			needs := []int{20, 20, 20, 20}
			needs[i] = 0
			b := newTree(t, 20, 20)
			b.family(needs...)
			ids := b.wantOneRecord("Tidy", api.RecShape, func() { b.ok("Tidy", b.x.Tidy(string([]byte{'b' + byte(i)})+key)) })
			if !slices.Equal(ids, []int{0, 1, 2 + i}) {
				t.Errorf("the pages %v are laid", ids)
			}
			b.wantPages(map[int]string{1: inner(1, want[i]...)})
			b.wantFree(2 + i)
			b.wantTree()
		}
	}
}

// Keys ahead of the first leaf that is left are to be found there, and put there.
func TestKeysOfALeafThatWent(t *testing.T) {
	b := newTree(t, 20, 20)
	b.family(0, 20, 200)
	b.ok("Tidy", b.x.Tidy("b"))
	b.puts(api.Cell{Key: "a"}, api.Cell{Key: "bz"}, api.Cell{Key: "b"})
	b.wantTree()
	if id, _ := b.x.Leaf("a"); id != 3 {
		t.Errorf("Leaf: %d, want 3", id)
	}
}

// clan lays three pages of level 1 below the root 1, the pages 2, 3, 4, with leaves below
// each whose cells need so many bytes: the pages from 10, 20, 30 on.
func (b *bench) clan(needs ...[]int) {
	b.t.Helper()
	texts := map[int]string{}
	var top []api.Cell
	for i, below := range needs {
		first := string([]byte{'d' + byte(i)})
		var above []api.Cell
		for j, need := range below {
			key := first + string([]byte{'0' + byte(j)})
			id := 10*(i+1) + j
			texts[id] = leaf(cellsOf(key, need)...)
			if j == 0 {
				key = ""
			}
			above = append(above, to(key, id))
		}
		texts[2+i] = inner(1, above...)
		if i == 0 {
			first = ""
		}
		top = append(top, to(first, 2+i))
	}
	texts[1] = inner(2, top...)
	b.hand(1, texts)
	b.wantTree()
}

// The only leaf below its page goes: so does that page.
func TestTidyOfTheOnlyLeafBelowAPage(t *testing.T) {
	want := [][]api.Cell{
		{to("", 3), to("f", 4)},
		{to("", 2), to("f", 4)},
		{to("", 2), to("e", 3)},
	}
	for i := range 3 {
		needs := [][]int{{30}, {30, 40}, {30}}
		needs[i] = []int{0}
		b := newTree(t, 40, 40)
		b.clan(needs...)
		ids := b.wantOneRecord("Tidy", api.RecShape, func() { b.ok("Tidy", b.x.Tidy(string([]byte{'d' + byte(i)})+"5")) })
		if !slices.Equal(ids, []int{0, 1, 2 + i, 10 * (i + 1)}) {
			t.Errorf("the pages %v are laid", ids)
		}
		b.wantPages(map[int]string{1: inner(2, want[i]...)})
		b.wantFree(2+i, 10*(i+1))
		b.wantTree()
		b.puts(api.Cell{Key: "a"}, api.Cell{Key: "d5"}, api.Cell{Key: "e5"}, api.Cell{Key: "f5"})
		b.wantTree()
	}
}

// Below the root one page is left, below that one, below that one: the last is the root.
func TestTidyToTheLeaf(t *testing.T) {
	for i := range 2 {
		needs := [][]int{{30}, {30}}
		needs[i] = []int{0}
		b := newTree(t, 40, 40)
		b.clan(needs...)
		ids := b.wantOneRecord("Tidy", api.RecShape, func() { b.ok("Tidy", b.x.Tidy(string([]byte{'d' + byte(i)})+"5")) })
		if !slices.Equal(ids, []int{0, 1, 2, 3, 10 * (i + 1)}) {
			t.Errorf("the pages %v are laid", ids)
		}
		b.wantFree(1, 2, 3, 10*(i+1))
		b.wantTree()
		if got := look(b.p).root; got != 10*(2-i) || b.x.Height() != 1 {
			t.Errorf("root %d, Height %d", got, b.x.Height())
		}
	}
}

// Below the root one page is left, which has two below: it is the root.
func TestTidyToAnInnerPage(t *testing.T) {
	for i := range 2 {
		needs := [][]int{{90, 90}, {90, 90}}
		needs[i] = []int{0}
		b := newTree(t, 40, 40)
		b.clan(needs...)
		b.wantOneRecord("Tidy", api.RecShape, func() { b.ok("Tidy", b.x.Tidy(string([]byte{'d' + byte(i)})+"5")) })
		b.wantFree(1, 2+i, 10*(i+1))
		b.wantTree()
		if got := look(b.p).root; got != 3-i || b.x.Height() != 2 {
			t.Errorf("root %d, Height %d", got, b.x.Height())
		}
		b.puts(api.Cell{Key: "a"}, api.Cell{Key: "z"})
		b.wantTree()
	}
}

// A thin leaf is not laid together with one that is below another page.
func TestTidyBesideAnotherPage(t *testing.T) {
	b := newTree(t, 40, 40)
	b.clan([]int{90, 30}, []int{30}, []int{30, 90})
	b.wantUnturned("Tidy", func() { b.ok("Tidy", b.x.Tidy("e5")) })
	b.clan([]int{140, 30}, []int{30, 90}, []int{30, 140})
	b.wantUnturned("Tidy", func() {
		b.ok("Tidy", b.x.Tidy("d1"))
		b.ok("Tidy", b.x.Tidy("f0"))
	})
}

// A thin leaf is laid together with the one beside it: the page above is left with one
// below, and stays, as it is not the root.
func TestTidyBelowAPageThatIsNotTheRoot(t *testing.T) {
	b := newTree(t, 40, 40)
	b.clan([]int{90, 90}, []int{30, 90}, []int{90})
	ids := b.wantOneRecord("Tidy", api.RecShape, func() { b.ok("Tidy", b.x.Tidy("e0")) })
	if !slices.Equal(ids, []int{0, 3, 20, 21}) {
		t.Errorf("the pages %v are laid", ids)
	}
	b.wantPages(map[int]string{3: inner(1, to("", 20))})
	b.wantFree(21)
	b.wantTree()
	if b.x.Height() != 3 {
		t.Errorf("Height %d", b.x.Height())
	}
}

// A root with one page below, which no Tidy left so: it is none any more, however thin
// or empty the leaf is.
func TestTidyOfARootWithOnePageBelow(t *testing.T) {
	for _, need := range []int{0, 30, 90} {
		b := newTree(t, 20, 20)
		b.hand(1, map[int]string{1: inner(1, to("", 2)), 2: leaf(cellsOf("k", need)...)})
		ids := b.wantOneRecord("Tidy", api.RecShape, func() { b.ok("Tidy", b.x.Tidy("k")) })
		if !slices.Equal(ids, []int{0, 1}) || look(b.p).root != 2 {
			t.Errorf("the pages %v are laid, root %d", ids, look(b.p).root)
		}
		b.wantFree(1)
		b.wantTree()
		b.hand(1, map[int]string{1: inner(3, to("", 2)), 2: inner(2, to("", 3)), 3: inner(1, to("", 4)), 4: leaf(cellsOf("k", need)...)})
		ids = b.wantOneRecord("Tidy", api.RecShape, func() { b.ok("Tidy", b.x.Tidy("k")) })
		if !slices.Equal(ids, []int{0, 1, 2, 3}) || look(b.p).root != 4 {
			t.Errorf("the pages %v are laid, root %d", ids, look(b.p).root)
		}
		b.wantFree(1, 2, 3)
		b.wantTree()
	}
	b := newTree(t, 20, 20)
	b.hand(1, map[int]string{1: inner(2, to("", 2)), 2: inner(1, to("", 3), to("m", 4)), 3: leaf(cellsOf("k", 90)...), 4: leaf(cellsOf("m", 90)...)})
	b.wantOneRecord("Tidy", api.RecShape, func() { b.ok("Tidy", b.x.Tidy("k")) })
	b.wantFree(1)
	b.wantTree()
	if look(b.p).root != 2 {
		t.Errorf("root %d", look(b.p).root)
	}
}

// A page that went is used again, the least one first.
func TestPagesThatWentAreUsedAgain(t *testing.T) {
	b := newTree(t, 20, 9)
	b.family(0, 200, 200, 200)
	b.ok("Tidy", b.x.Tidy("b"))
	b.wantFree(2)
	_, err := b.x.Place("ck", 51)
	b.ok("Place", err)
	b.wantTree()
	if ids := look(b.p).ids(); !slices.Equal(ids, []int{3, 2, 4, 5}) {
		t.Errorf("the leaves are the pages %v", ids)
	}
}

// Tidied is the leaf of the key, no other one.
func TestTidyOfTheKeysLeafAlone(t *testing.T) {
	b := newTree(t, 20, 20)
	b.family(0, 200, 0, 200, 20)
	b.wantUnturned("Tidy", func() {
		for _, key := range []string{"c", "ck", "cz", "e", "f"} {
			wantErr(t, "Tidy", b.x.Tidy(key), api.OK)
		}
	})
	b.ok("Tidy", b.x.Tidy("d"))
	b.wantFree(4)
	b.wantTree()
	if ids := look(b.p).ids(); !slices.Equal(ids, []int{2, 3, 5, 6}) {
		t.Errorf("the leaves are the pages %v", ids)
	}
}

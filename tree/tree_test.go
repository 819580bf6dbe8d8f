package tree_test

import (
	"math"
	"math/rand"
	"slices"
	"strings"
	"testing"

	"gharry/api"
	"gharry/page"
	"gharry/pool"
	"gharry/store"
	"gharry/tree"
	"gharry/wal"
)

// Promise 11.1.

func TestNew(t *testing.T) {
	b := newBench(t, 2, 4, 20)
	for _, x := range []*tree.Tree{tree.New(nil, nil), tree.New(nil, b.l), tree.New(b.p, nil)} {
		if x != nil {
			t.Errorf("New with a nil: %v", x)
		}
	}
	b.wantUnturned("New", func() { b.anew() })
}

// The document's examples.
func TestExample(t *testing.T) {
	b := newTree(t, 4, 50)
	if got := b.x.Height(); got != 1 {
		t.Errorf("Height: %d, want 1", got)
	}
	for i := range 10 {
		b.puts(api.Cell{Key: string(rune('a' + i)), Val: fill(32)})
		b.wantTree()
	}
	if got := b.x.Height(); got != 2 {
		t.Errorf("Height behind ten cells: %d, want 2", got)
	}
}

func TestCreate(t *testing.T) {
	for _, pages := range []int{2, 3, 9, api.MaxPages} {
		for _, frames := range []int{2, 3, 64} {
			b := newBench(t, frames, pages, 40)
			if b.x.Born() {
				t.Errorf("Born ahead of Create")
			}
			ids := b.wantOneRecord("Create", api.RecShape, func() {
				b.ok("Create", b.x.Create())
				b.wantRedo("behind Create", 1)
			})
			if !slices.Equal(ids, []int{0, 1}) {
				t.Errorf("Create lays the pages %v", ids)
			}
			head := make([]byte, api.PageBytes)
			head[1], head[2] = 1, 3
			if text, _, _ := b.p.Get(0); text != string(head) {
				t.Errorf("page 0: %q", text)
			}
			if text, _, _ := b.p.Get(1); text != leaf() {
				t.Errorf("page 1: %q", text)
			}
			b.wantTree()
			if b.x.Height() != 1 || b.x.Free() != pages-2 {
				t.Errorf("Height %d, Free %d", b.x.Height(), b.x.Free())
			}
			b.wantUnturned("Create once more", func() { wantErr(t, "Create", b.x.Create(), api.ErrThere) })
		}
	}
}

func TestCreateRefuses(t *testing.T) {
	b := newBench(t, 2, 1, 20)
	b.wantUnturned("Create in one page", func() { wantErr(t, "Create", b.x.Create(), api.ErrFull) })
	b.set(map[int]string{0: leaf()})
	b.wantUnturned("Create", func() { wantErr(t, "Create where page 0 is there, and no other", b.x.Create(), api.ErrThere) })

	b = newBench(t, 2, 1, 20)
	b.ok("Crash", b.d.Crash(0))
	wantErr(t, "Create in one page without power", b.x.Create(), api.ErrFull)

	p, err := pool.New(&store.Store{}, b.l, 2)
	b.ok("pool.New", err)
	wantErr(t, "Create in no page", tree.New(p, b.l).Create(), api.ErrFull)

	b = newBench(t, 2, 2, 2)
	b.wantUnturned("Create", func() { wantErr(t, "Create in a log without room", b.x.Create(), api.ErrFull) })

	b = newBench(t, 2, 4, 40)
	b.ok("Crash", b.d.Crash(0))
	wantErr(t, "Create without power", b.x.Create(), api.ErrDown)
	if b.l.End() != 1 {
		t.Errorf("the log ends at %d", b.l.End())
	}
	b.ok("Start", b.d.Start())
	b.ok("Create", b.x.Create())
	b.wantTree()
}

// Whatever is page 0, it is there.
func TestBorn(t *testing.T) {
	for _, text := range []string{leaf(), strings.Repeat("\x00", api.PageBytes), strings.Repeat("\xff", api.PageBytes)} {
		b := newBench(t, 2, 4, 20)
		b.set(map[int]string{1: leaf(), 2: leaf()})
		if b.x.Born() {
			t.Errorf("Born without a page 0")
		}
		b.set(map[int]string{0: text})
		if !b.x.Born() {
			t.Errorf("not Born with the page 0 %q", text)
		}
		b.ok("FlushAll", b.p.FlushAll())
		b.ok("Crash", b.d.Crash(0))
		b.ok("Start", b.d.Start())
		b.open(2)
		if !b.x.Born() {
			t.Errorf("not Born when it is opened again")
		}
		b.open(3)
		b.ok("Crash", b.d.Crash(0))
		if b.x.Born() {
			t.Errorf("Born, and page 0 can't be read")
		}
	}
}

// What each call tells when there is no tree yet, and what of a tree that nobody made.
func wantNothing(t *testing.T, x *tree.Tree, want api.Errno) {
	t.Helper()
	if val, is, err := x.Get("a"); val != "" || is || err != want {
		t.Errorf("Get: %q, %v, error %d", val, is, err)
	}
	for _, most := range []int{-1, 0, 9} {
		if l, err := x.Scan("", "", most); len(l) != 0 || err != want {
			t.Errorf("Scan: %v, error %d", l, err)
		}
	}
	if id, err := x.Leaf("a"); id != 0 || err != want {
		t.Errorf("Leaf: %d, error %d", id, err)
	}
	for _, need := range []int{math.MinInt, 0, 5, 51} {
		if id, err := x.Place("a", need); id != 0 || err != want {
			t.Errorf("Place of %d: %d, error %d", need, id, err)
		}
	}
	for _, id := range []int{-1, 0, 1, 3, 4, math.MaxInt} {
		wantErr(t, "Cover", x.Cover(id), want)
		for _, act := range []int{api.RecInsert, api.RecDelete, api.RecUpdate} {
			wantErr(t, "Change", x.Change(id, 1, act, api.Cell{Key: "a"}), want)
		}
	}
	wantErr(t, "Tidy", x.Tidy("a"), want)
	if x.Born() || x.Check() || x.Free() != 0 || x.Height() != 0 {
		t.Errorf("Born %v, Check %v, Free %d, Height %d", x.Born(), x.Check(), x.Free(), x.Height())
	}
}

func TestNoTreeYet(t *testing.T) {
	b := newBench(t, 4, 4, 40)
	b.wantUnturned("no tree yet", func() {
		wantNothing(t, b.x, api.ErrNone)
		_, err := b.x.Place("a", 52)
		wantErr(t, "Place of 52", err, api.ErrLong)
		wantErr(t, "Change with no act", b.x.Change(1, 1, api.RecUndo, api.Cell{}), api.ErrArg)
		if got := b.x.Redo(); got != b.l.End() {
			t.Errorf("Redo: %d, want the log's end", got)
		}
		b.x.Mark(1)
	})
}

// Many cells, put in an order, changed in it, and taken away in another one.
func orders(n int) map[string][]int {
	var rising []int
	for i := range n {
		rising = append(rising, i)
	}
	falling := slices.Clone(rising)
	slices.Reverse(falling)
	var fromBoth []int
	for i := range n {
		if i%2 == 0 {
			fromBoth = append(fromBoth, i/2)
		} else {
			fromBoth = append(fromBoth, n-1-i/2)
		}
	}
	return map[string][]int{"rising": rising, "falling": falling, "from both": fromBoth, "mixed": rand.New(rand.NewSource(5)).Perm(n)}
}

func TestManyCells(t *testing.T) {
	t.Parallel()
	const n = 50
	for in, first := range orders(n) {
		for out, last := range orders(n) {
			b := newTree(t, 64, 64)
			for _, i := range first {
				b.puts(api.Cell{Key: keyOf(i), Val: fill(i % 33)})
				b.wantTree()
			}
			height := b.x.Height()
			for _, i := range first {
				b.puts(api.Cell{Key: keyOf(i), Val: fill(32 - i%33)})
				b.wantTree()
			}
			for _, i := range last {
				b.ok("delete", b.del(keyOf(i)))
				b.wantTree()
			}
			if height < 2 || b.x.Height() != 1 || b.x.Free() != 62 {
				t.Errorf("Height %d, then %d, Free %d", height, b.x.Height(), b.x.Free())
			}
			b.wantRedone()
			if t.Failed() {
				t.Fatalf("in: %s, out: %s", in, out)
			}
		}
	}
}

// keyOf is a key of 1 to 16 bytes; a greater number's is greater.
func keyOf(i int) string {
	return string([]byte{byte('0' + i/10), byte('0' + i%10)}) + strings.Repeat("k", i*7%15)
}

func TestScan(t *testing.T) {
	t.Parallel()
	b := newTree(t, 8, 64)
	for i := range 60 {
		b.puts(api.Cell{Key: keyOf(i), Val: fill(i % 33)})
	}
	if b.x.Height() < 3 {
		t.Fatalf("Height %d", b.x.Height())
	}
	ends := []string{"", "0", "00", keyOf(0), keyOf(7), keyOf(7) + "\x00", keyOf(29)[:2], keyOf(30), keyOf(59), keyOf(59) + "x", "~", strings.Repeat("5", 40)}
	for _, l := range look(b.p).leaves {
		ends = append(ends, l.lo, l.cells[0].Key, l.cells[len(l.cells)-1].Key)
	}
	for _, lo := range ends {
		for _, hi := range ends {
			for _, most := range []int{math.MinInt, -1, 0, 1, 2, 3, 7, 59, 60, 61, math.MaxInt} {
				b.wantScan(lo, hi, most)
			}
		}
	}
}

func TestScanOfEmptyTrees(t *testing.T) {
	b := newTree(t, 4, 9)
	for _, hi := range []string{"", "a"} {
		b.wantScan("", hi, 9)
		b.wantScan("a", hi, 9)
	}
	b.hand(1, map[int]string{1: inner(1, to("", 2), to("m", 3), to("q", 4)), 2: leaf(), 3: leaf(), 4: leaf()})
	b.wantScan("", "", 9)
	b.wantScan("n", "", 9)
	b.hand(1, map[int]string{1: inner(1, to("", 2), to("m", 3), to("q", 4)), 2: leaf(), 3: leaf(), 4: leaf(api.Cell{Key: "r"})})
	b.wantScan("", "", 9)
	b.wantScan("", "q", 9)
	b.wantScan("", "r", 9)
}

// What is answered is new memory.
func TestAnswersAreNew(t *testing.T) {
	b := newTree(t, 8, 64)
	for i := range 20 {
		b.puts(api.Cell{Key: keyOf(i), Val: fill(i)})
	}
	for _, most := range []int{1, 3, 20, 40} {
		l, _ := b.x.Scan("", "", most)
		for i := range l {
			l[i] = api.Cell{}
		}
		l = append(l, api.Cell{})
		b.wantTree()
	}
}

// A key of 1 byte and of 16, a value of 0 bytes and of 32.
func TestLongAndShort(t *testing.T) {
	t.Parallel()
	for _, key := range []int{1, 16} {
		for _, val := range []int{0, 32} {
			b := newTree(t, 64, 64)
			var keys []string
			for i := range 64 {
				keys = append(keys, strings.Repeat("p", key-1)+string([]byte{byte(4 * i)}))
			}
			for _, k := range keys {
				b.puts(api.Cell{Key: k, Val: fill(val)})
				b.wantTree()
			}
			for _, k := range keys {
				b.ok("delete", b.del(k))
				b.wantTree()
			}
			b.wantRedone()
		}
	}
}

// A key that is asked for may be none: it is looked for where it would be.
func TestKeysThatMayNotBe(t *testing.T) {
	b := newTree(t, 8, 64)
	for i := range 40 {
		b.puts(api.Cell{Key: keyOf(i), Val: fill(9)})
	}
	s := look(b.p)
	b.wantUnturned("keys that may not be", func() {
		for _, key := range []string{"", keyOf(20) + strings.Repeat("k", 30), strings.Repeat("~", 400)} {
			b.wantGet(key)
			b.wantLeaf(s, key)
			id, err := b.x.Place(key, 0)
			if id != s.leafOf(key).id || err != api.OK {
				t.Errorf("Place(%q, 0): %d, error %d", key, id, err)
			}
		}
	})
}

// Promise 11.2: Place.

func TestPlaceOfWhatHasRoom(t *testing.T) {
	for _, need := range []int{math.MinInt, -1, 0, 1, 4, 30, 50, 51} {
		b := newTree(t, 8, 8)
		b.hand(1, map[int]string{1: leaf(cellsOf("k", roomForAll-max(need, 0))...)})
		b.wantUnturned("Place", func() {
			if id, err := b.x.Place("m", need); id != 1 || err != api.OK {
				t.Errorf("Place of %d: %d, error %d", need, id, err)
			}
		})
	}
}

func TestPlaceOfTooMuch(t *testing.T) {
	b := newTree(t, 8, 8)
	b.wantUnturned("Place", func() {
		for _, need := range []int{52, 53, 220, math.MaxInt} {
			if id, err := b.x.Place("m", need); id != 0 || err != api.ErrLong {
				t.Errorf("Place of %d: %d, error %d", need, id, err)
			}
		}
	})
	if id, err := b.x.Place("m", 51); id != 1 || err != api.OK {
		t.Errorf("Place of 51: %d, error %d", id, err)
	}
	b.d.Crash(0)
	b.anew()
	_, err := b.x.Place("m", 52)
	wantErr(t, "Place of 52 without power", err, api.ErrLong)
}

// The root is a leaf, and has a byte less room than is needed.
func TestPartOfALeafThatIsTheRoot(t *testing.T) {
	for need := 1; need <= 51; need++ {
		cells := cellsOf("k", roomForAll-need+1)
		first, second, key, _ := page.Halves(leaf(cells...))
		for _, asked := range []string{"", "a", cells[0].Key, key[:len(key)-1], key, key + "a", "z"} {
			b := newTree(t, 8, 8)
			b.hand(1, map[int]string{1: leaf(cells...)})
			var id int
			ids := b.wantOneRecord("Place", api.RecShape, func() {
				var err api.Errno
				id, err = b.x.Place(asked, need)
				b.ok("Place", err)
			})
			if !slices.Equal(ids, []int{0, 1, 2, 3}) {
				t.Fatalf("the pages %v are laid", ids)
			}
			want := 1
			if asked >= key {
				want = 2
			}
			if id != want {
				t.Errorf("Place(%q, %d): %d, want %d", asked, need, id, want)
			}
			b.wantPages(map[int]string{1: first, 2: second, 3: inner(1, to("", 1), to(key, 2))})
			b.wantTree()
		}
	}
}

// wantPages asks for the cells of pages, their kinds and levels; of all leaves for each byte.
func (b *bench) wantPages(want map[int]string) {
	b.t.Helper()
	for id, text := range want {
		got, _, err := b.p.Get(id)
		b.ok("pool: Get", err)
		same := page.Right(got) && page.Kind(got) == page.Kind(text) && page.Level(got) == page.Level(text) && slices.Equal(page.Cells(got), page.Cells(text))
		if !same || page.Kind(text) != page.Inner && got != text {
			b.t.Errorf("page %d: kind %d, level %d, %q; want kind %d, level %d, %q", id, page.Kind(got), page.Level(got), page.Cells(got), page.Kind(text), page.Level(text), page.Cells(text))
		}
	}
}

// The page above has room for just one cell more: it gets it, in the least page that nobody used.
func TestPartOfALeafBelowAPageWithRoom(t *testing.T) {
	for part := range 4 {
		b := newTree(t, 20, 20)
		cells := [][]api.Cell{cellsOf("aa", 200), cellsOf("mm", 200), cellsOf("pp", 200), cellsOf("zz", 200)}
		above := []api.Cell{to("", 9), to("m", 3), to("p", 12), to("z", 5)}
		texts := map[int]string{2: inner(1, above...)}
		for i, id := range []int{9, 3, 12, 5} {
			texts[id] = leaf(cells[i]...)
		}
		b.hand(2, texts)
		first, second, key, _ := page.Halves(leaf(cells[part]...))
		old := []int{9, 3, 12, 5}[part]
		ids := b.wantOneRecord("Place", api.RecShape, func() {
			id, err := b.x.Place(cells[part][0].Key, 51)
			if id != old || err != api.OK {
				t.Errorf("Place: %d, error %d", id, err)
			}
		})
		want := []int{0, 1, 2, old}
		slices.Sort(want)
		if !slices.Equal(ids, want) {
			t.Errorf("the pages %v are laid, want %v", ids, want)
		}
		b.wantPages(map[int]string{old: first, 1: second, 2: inner(1, append(above, to(key, 1))...)})
		b.wantTree()
		if b.x.Height() != 2 || look(b.p).root != 2 {
			t.Errorf("Height %d, root %d", b.x.Height(), look(b.p).root)
		}
	}
}

// long is a key of 16 bytes.
func long(c byte) string { return string([]byte{c}) + strings.Repeat("l", api.MaxKey-1) }

// fullInner are 11 leaves, with 200 bytes of cells each, below a page that has room for 5 bytes:
// its cells, and the leaves' pages from first on.
func fullInner(texts map[int]string, from byte, first int) []api.Cell {
	var above []api.Cell
	for i := range 11 {
		c := from + byte(i)
		key := long(c)
		if i == 0 {
			key = ""
		}
		above = append(above, to(key, first+i))
		texts[first+i] = leaf(cellsOf(string([]byte{c})+"z", 200)...)
	}
	return above
}

// What the document says of a page without room that gets a cell: its halves, of which
// the one gets the cell to which it belongs; the key of the second goes up.
func halvesWith(level int, cells []api.Cell, more api.Cell) (string, string, string) {
	first, second, key, _ := page.Halves(inner(level, slices.Clone(cells)...))
	l, r := page.Cells(first), page.Cells(second)
	r[0].Key = ""
	if more.Key < key {
		l = append(l, more)
	} else {
		r = append(r, more)
	}
	return inner(level, l...), inner(level, r...), key
}

func TestPartOfARootAboveLeaves(t *testing.T) {
	for part := range 11 {
		texts := map[int]string{}
		above := fullInner(texts, 'a', 4)
		texts[1] = inner(1, slices.Clone(above)...)
		b := newTree(t, 20, 20)
		b.hand(1, texts)
		old := 4 + part
		cells := page.Cells(texts[old])
		first, second, key, _ := page.Halves(texts[old])
		left, right, up := halvesWith(1, above, to(key, 2))
		ids := b.wantOneRecord("Place", api.RecShape, func() {
			id, err := b.x.Place(cells[len(cells)-1].Key, 51)
			if id != 2 || err != api.OK {
				t.Errorf("Place: %d, error %d", id, err)
			}
		})
		want := []int{0, 1, 2, 3, 15, old}
		slices.Sort(want)
		if !slices.Equal(ids, want) {
			t.Errorf("the pages %v are laid, want %v", ids, want)
		}
		b.wantPages(map[int]string{old: first, 2: second, 1: left, 3: right, 15: inner(2, to("", 1), to(up, 3))})
		b.wantTree()
		if b.x.Height() != 3 || look(b.p).root != 15 {
			t.Errorf("Height %d, root %d", b.x.Height(), look(b.p).root)
		}
	}
}

// A page above is parted, and the root has room.
func TestPartOfAPageAbove(t *testing.T) {
	for part := range 11 {
		texts := map[int]string{}
		above := fullInner(texts, 'g', 4)
		texts[1] = inner(2, to("", 2), to("g", 3), to("w", 20))
		texts[2], texts[3], texts[20] = inner(1, to("", 21)), inner(1, slices.Clone(above)...), inner(1, to("", 22))
		texts[21], texts[22] = leaf(cellsOf("a", 100)...), leaf(cellsOf("x", 100)...)
		b := newTree(t, 30, 30)
		b.hand(1, texts)
		old := 4 + part
		first, second, key, _ := page.Halves(texts[old])
		left, right, up := halvesWith(1, above, to(key, 15))
		b.wantOneRecord("Place", api.RecShape, func() {
			id, err := b.x.Place(page.Cells(texts[old])[0].Key, 51)
			if id != old || err != api.OK {
				t.Errorf("Place: %d, error %d", id, err)
			}
		})
		b.wantPages(map[int]string{old: first, 15: second, 3: left, 16: right, 1: inner(2, to("", 2), to("g", 3), to(up, 16), to("w", 20))})
		b.wantTree()
		if b.x.Height() != 3 || look(b.p).root != 1 {
			t.Errorf("Height %d, root %d", b.x.Height(), look(b.p).root)
		}
	}
}

// Parted are a leaf, the page above, and the root above that: all by one record.
func TestPartOfThreeLevels(t *testing.T) {
	texts := map[int]string{}
	above := fullInner(texts, 'g', 30)
	var top []api.Cell
	for i, c := range []byte("-56789gstuv") {
		key := long(c)
		if i == 0 {
			key = ""
		}
		top = append(top, to(key, 2+i))
		texts[2+i] = inner(1, to("", 60+i))
		texts[60+i] = leaf(cellsOf(string([]byte{c})+"z", 30)...)
	}
	delete(texts, 66)
	texts[8] = inner(1, slices.Clone(above)...)
	texts[1] = inner(2, slices.Clone(top)...)
	b := newTree(t, 64, 80)
	b.hand(1, texts)
	b.wantTree()
	first, second, key, _ := page.Halves(texts[33])
	left, right, up := halvesWith(1, above, to(key, 13))
	far, near, crown := halvesWith(2, top, to(up, 14))
	ids := b.wantOneRecord("Place", api.RecShape, func() {
		id, err := b.x.Place("jz", 51)
		if id != 33 || err != api.OK {
			t.Errorf("Place: %d, error %d", id, err)
		}
	})
	if want := []int{0, 1, 8, 13, 14, 15, 16, 33}; !slices.Equal(ids, want) {
		t.Errorf("the pages %v are laid, want %v", ids, want)
	}
	b.wantPages(map[int]string{33: first, 13: second, 8: left, 14: right, 1: far, 15: near, 16: inner(3, to("", 1), to(crown, 15))})
	b.wantTree()
	if b.x.Height() != 4 {
		t.Errorf("Height %d", b.x.Height())
	}
}

// Stores of just so many pages, and of one less, than are wanted.
func TestPlaceWithoutPages(t *testing.T) {
	for pages := 2; pages <= 4; pages++ {
		b := newTree(t, 8, pages)
		b.hand(1, map[int]string{1: leaf(cellsOf("k", 200)...)})
		if pages == 4 {
			id, err := b.x.Place("a", 21)
			if id != 1 || err != api.OK || b.x.Free() != 0 {
				t.Errorf("Place in 4 pages: %d, error %d, Free %d", id, err, b.x.Free())
			}
			b.wantTree()
			continue
		}
		b.wantUnturned("Place", func() {
			if id, err := b.x.Place("a", 21); id != 0 || err != api.ErrFull {
				t.Errorf("Place in %d pages: %d, error %d", pages, id, err)
			}
			if id, err := b.x.Place("a", 20); id != 1 || err != api.OK {
				t.Errorf("Place in %d pages of what has room: %d, error %d", pages, id, err)
			}
		})
	}
	for more := range 4 {
		texts := map[int]string{}
		texts[1] = inner(1, fullInner(texts, 'a', 2)...)
		b := newTree(t, 20, 13+more)
		b.hand(1, texts)
		if more == 3 {
			_, err := b.x.Place("cz", 51)
			b.ok("Place", err)
			b.wantTree()
			continue
		}
		b.wantUnturned("Place", func() {
			if id, err := b.x.Place("cz", 51); id != 0 || err != api.ErrFull {
				t.Errorf("Place, with %d pages free: %d, error %d", more, id, err)
			}
		})
	}
}

// A tree of all 200 pages.
func TestAllPages(t *testing.T) {
	b := newBench(t, 64, api.MaxPages, 7300)
	b.ok("Create", b.x.Create())
	r := rand.New(rand.NewSource(7))
	for i := range 2000 {
		key := string([]byte{byte(r.Intn(256)), byte(i), byte(i >> 8)}) + fill(13)
		if err := b.put(key, fill(32)); err == api.ErrFull {
			break
		} else {
			b.ok("put", err)
		}
	}
	if b.x.Free() > 3 {
		t.Fatalf("Free: %d", b.x.Free())
	}
	b.wantTree()
	for key := range b.cells {
		b.ok("delete", b.del(key))
	}
	b.wantTree()
	if b.x.Free() != api.MaxPages-2 {
		t.Errorf("Free: %d", b.x.Free())
	}
	b.wantRedone()
}

// Promise 11.2: Cover and Change.

func TestCover(t *testing.T) {
	b := newTree(t, 8, 8)
	b.hand(1, map[int]string{1: leaf(cellsOf("k", 90)...), 3: leaf(), 5: "\x09" + strings.Repeat("x", 223)})
	b.anew()
	for _, id := range []int{1, 0, 3, 5} {
		text, _, _ := b.p.Get(id)
		ids := b.wantOneRecord("Cover", api.RecFull, func() { wantErr(t, "Cover", b.x.Cover(id), api.OK) })
		if !slices.Equal(ids, []int{id}) {
			t.Errorf("Cover(%d) lays %v", id, ids)
		}
		if now, _, _ := b.p.Get(id); now != text {
			t.Errorf("Cover(%d): %q, was %q", id, now, text)
		}
		b.wantUnturned("Cover once more", func() { wantErr(t, "Cover", b.x.Cover(id), api.OK) })
	}
}

// Since the mark: a record at it counts, one ahead of it does not.
func TestCoverAndMark(t *testing.T) {
	b := newTree(t, 8, 8)
	full := func() int {
		b.t.Helper()
		at := b.l.End()
		b.wantOneRecord("Cover", api.RecFull, func() { b.ok("Cover", b.x.Cover(1)) })
		return at
	}
	covered := func() {
		b.t.Helper()
		b.wantUnturned("Cover", func() { b.ok("Cover", b.x.Cover(1)) })
	}
	covered() // Create laid it
	b.x.Mark(1)
	covered()
	b.x.Mark(2)
	at := full()
	covered()
	b.x.Mark(at)
	covered()
	b.x.Mark(at + 1)
	b.x.Mark(at)
	covered()
	b.x.Mark(at + 1)
	full()
	b.x.Mark(b.l.End())
	full()
	b.x.Mark(-7)
	covered()
	b.x.Mark(math.MaxInt)
	full()
	full()
	b.x.Mark(0)
	covered()
	b.anew()
	full()
	b.anew()
	b.x.Mark(-1)
	full() // of a tree that has not laid it
}

// What is laid together is covered: a page that goes, too.
func TestLaidPagesAreCovered(t *testing.T) {
	b := newTree(t, 30, 30)
	b.hand(1, map[int]string{1: leaf(cellsOf("k", 200)...)})
	b.x.Mark(b.l.End())
	_, err := b.x.Place("k", 51)
	b.ok("Place", err)
	b.wantUnturned("Cover", func() {
		for id := range 4 {
			wantErr(t, "Cover", b.x.Cover(id), api.OK)
		}
	})
	for key := range b.cells {
		b.ok("delete", b.drop(key))
	}
	b.x.Mark(b.l.End())
	b.ok("Tidy", b.x.Tidy("a"))
	if b.x.Height() != 1 {
		t.Fatalf("Height %d", b.x.Height())
	}
	var laid []int
	recs, _ := b.l.Records()
	for _, image := range recs[len(recs)-1].Images {
		laid = append(laid, image.Page)
	}
	b.wantUnturned("Cover", func() {
		for _, id := range laid {
			wantErr(t, "Cover", b.x.Cover(id), api.OK)
		}
	})
}

func TestCoverRefuses(t *testing.T) {
	b := newTree(t, 8, 8)
	b.puts(cellsOf("k", 100)...)
	b.wantUnturned("Cover", func() {
		for _, id := range []int{math.MinInt, -1, 8, 9, 65535, 65536, math.MaxInt} {
			wantErr(t, "Cover of no page", b.x.Cover(id), api.ErrRange)
		}
		wantErr(t, "Cover of a page that was never written", b.x.Cover(7), api.ErrForm)
	})
}

func TestChange(t *testing.T) {
	b := newTree(t, 8, 8)
	do := func(act int, c api.Cell, turn func(text string) (string, api.Errno)) {
		t.Helper()
		text, _, _ := b.p.Get(1)
		want, err := turn(text)
		b.ok("page", err)
		at := b.append(api.Rec{Kind: api.RecEnd, Txn: 1})
		end := b.l.End()
		b.ok("Change", b.x.Change(1, at, act, c))
		if got, lsn, _ := b.p.Get(1); got != want || lsn != at || b.l.End() != end {
			t.Errorf("Change %d of %q: %q by %d, want %q by %d; the log ends at %d, was %d", act, c, got, lsn, want, at, b.l.End(), end)
		}
	}
	for _, c := range []api.Cell{{Key: "b", Val: "1"}, {Key: long('c'), Val: fill(32)}, {Key: "a"}} {
		do(api.RecInsert, c, func(text string) (string, api.Errno) { return page.Insert(text, c) })
		b.cells[c.Key] = c.Val
		b.wantTree()
	}
	for _, c := range []api.Cell{{Key: "b", Val: fill(32)}, {Key: long('c'), Val: ""}, {Key: "a", Val: "2"}} {
		do(api.RecUpdate, c, func(text string) (string, api.Errno) { return page.Update(text, c) })
		b.cells[c.Key] = c.Val
		b.wantTree()
	}
	for _, key := range []string{"b", "a", long('c')} {
		do(api.RecDelete, api.Cell{Key: key, Val: fill(90)}, func(text string) (string, api.Errno) { return page.Delete(text, key) })
		delete(b.cells, key)
		b.wantTree()
	}
}

func TestChangeRefuses(t *testing.T) {
	b := newTree(t, 9, 9)
	b.hand(1, map[int]string{1: leaf(cellsOf("k", 200)...), 4: made(page.Free, 0)})
	there := cellsOf("k", 200)[0].Key
	acts := []int{api.RecInsert, api.RecDelete, api.RecUpdate}
	b.wantUnturned("Change", func() {
		for _, act := range []int{math.MinInt, -1, 0, api.RecFull, api.RecShape, api.RecUndo, api.RecCommit, 11, math.MaxInt} {
			for _, id := range []int{-1, 0, 1, 7, 9} {
				wantErr(t, "Change with no act", b.x.Change(id, 0, act, api.Cell{Key: long('k') + "k"}), api.ErrArg)
			}
		}
		for _, act := range acts {
			for _, id := range []int{math.MinInt, -1, 9, 10, math.MaxInt} {
				wantErr(t, "Change of no page", b.x.Change(id, 0, act, api.Cell{Key: long('k') + "k"}), api.ErrRange)
			}
			for _, id := range []int{0, 4, 7} {
				wantErr(t, "Change of page 0, a Free one, one that was never written", b.x.Change(id, 0, act, api.Cell{Key: long('k') + "k"}), api.ErrForm)
			}
		}
		change := func(what string, act int, c api.Cell, want api.Errno) {
			t.Helper()
			for _, lsn := range []int{-1, 0, 1, 99} {
				wantErr(t, what, b.x.Change(1, lsn, act, c), want)
			}
		}
		for _, act := range []int{api.RecInsert, api.RecUpdate} {
			change("a key that is too long", act, api.Cell{Key: long('k') + "k", Val: fill(33)}, api.ErrKey)
			change("a value that is too long", act, api.Cell{Key: there, Val: fill(33)}, api.ErrValue)
		}
		change("Insert of a key that is there", api.RecInsert, api.Cell{Key: there, Val: fill(32)}, api.ErrThere)
		change("Insert without room", api.RecInsert, api.Cell{Key: "z", Val: fill(17)}, api.ErrFull)
		change("Delete of a key that is not there", api.RecDelete, api.Cell{Key: "z"}, api.ErrNone)
		change("Delete of a key that may not be", api.RecDelete, api.Cell{Key: long('k') + "k", Val: fill(99)}, api.ErrNone)
		change("Update of a key that is not there", api.RecUpdate, api.Cell{Key: "z", Val: fill(32)}, api.ErrNone)
		for _, lsn := range []int{math.MinInt, -1, 0} {
			wantErr(t, "Change by no record", b.x.Change(1, lsn, api.RecDelete, api.Cell{Key: there}), api.ErrArg)
			wantErr(t, "Change by no record", b.x.Change(1, lsn, api.RecInsert, api.Cell{Key: "z"}), api.ErrArg)
		}
	})
	wantErr(t, "Insert of what has just room", b.x.Change(1, 1, api.RecInsert, api.Cell{Key: "z", Val: fill(16)}), api.OK)
	b.wantUnturned("Change", func() {
		wantErr(t, "Update without room", b.x.Change(1, 1, api.RecUpdate, api.Cell{Key: "z", Val: fill(17)}), api.ErrFull)
	})
}

// An act on an inner page is as page has it: no other error is named.
func TestChangeOfAnInnerPage(t *testing.T) {
	b := newTree(t, 9, 9)
	b.hand(1, map[int]string{1: inner(1, to("", 2)), 2: leaf(cellsOf("a", 60)...), 3: leaf(cellsOf("m", 60)...)})
	wantErr(t, "Change", b.x.Change(1, 900, api.RecInsert, to("m", 3)), api.OK)
	b.wantTree()
	b.wantUnturned("Change", func() {
		wantErr(t, "Change", b.x.Change(1, 901, api.RecInsert, to("m", 3)), api.ErrThere)
		wantErr(t, "Change", b.x.Change(1, 901, api.RecDelete, to("n", 3)), api.ErrNone)
	})
}

// Promise 11.3: Mark and Redo (Check stands in damage_test.go).

func (b *bench) wantRedo(what string, want int) {
	b.t.Helper()
	if got := b.x.Redo(); got != want {
		b.t.Errorf("Redo %s: %d, want %d", what, got, want)
	}
}

func TestRedo(t *testing.T) {
	b := newBench(t, 8, 8, plentyLog)
	b.wantRedo("of an empty log", 1)
	b.append(api.Rec{Kind: api.RecEnd, Txn: 1})
	b.wantRedo("with no dirty page", b.l.End())
	created := b.l.End()
	b.ok("Create", b.x.Create())
	b.append(api.Rec{Kind: api.RecEnd, Txn: 1})
	b.wantRedo("behind Create", created)
	b.puts(api.Cell{Key: "a"})
	b.wantRedo("behind a change", created)
	b.ok("Flush", b.p.Flush(0))
	b.wantRedo("with one dirty page", created)
	b.ok("FlushAll", b.p.FlushAll())
	b.wantRedo("with no dirty page", b.l.End())
	b.puts(api.Cell{Key: "b"})
	if since := b.p.Redo(); since <= created {
		t.Fatalf("page 1 is dirty since %d", since)
	}
	b.wantRedo("of a page that is dirty since a record behind the one in which it is whole", created)
	b.ok("FlushAll", b.p.FlushAll())
	mark := b.append(api.Rec{Kind: api.RecCheck})
	b.x.Mark(mark)
	b.wantRedo("behind a mark", b.l.End())
	full := b.l.End()
	b.puts(api.Cell{Key: "c"})
	b.wantRedo("of a page that was covered behind a mark", full)
	b.x.Mark(b.l.End())
	b.puts(api.Cell{Key: "d"})
	b.wantRedo("of a page that was covered twice, dirty since the first time", full)
	b.ok("FlushAll", b.p.FlushAll())
	b.wantRedo("with no dirty page", b.l.End())
	last := b.l.End()
	b.x.Mark(last)
	b.puts(api.Cell{Key: "e"}, api.Cell{Key: "f"})
	b.ok("FlushAll", b.p.FlushAll())
	b.puts(api.Cell{Key: "g"})
	b.wantRedo("of a page that was whole last", last)
}

// A page that this tree did not lay: the record since which it is dirty alone.
func TestRedoOfWhatOthersLaid(t *testing.T) {
	b := newTree(t, 8, 8)
	b.puts(api.Cell{Key: "a"})
	b.ok("FlushAll", b.p.FlushAll())
	b.anew()
	b.wantRedo("of a new tree", b.l.End())
	id, _ := b.x.Leaf("a")
	at := b.append(api.Rec{Kind: api.RecEnd, Txn: 1})
	b.ok("Change", b.x.Change(id, at, api.RecInsert, api.Cell{Key: "b"}))
	b.append(api.Rec{Kind: api.RecEnd, Txn: 1})
	b.wantRedo("of a page that it did not lay", at)
	other := b.append(api.Rec{Kind: api.RecEnd, Txn: 1})
	b.ok("Set", b.p.Set(6, leaf(), other))
	b.wantRedo("of two pages", at)
	b.ok("Flush", b.p.Flush(id))
	b.wantRedo("of the other one", other)
	b.x.Mark(1)
	b.wantRedo("behind a mark", other)
}

// The least of many, by a plain record of what the log has.
func TestRedoOfManyPages(t *testing.T) {
	t.Parallel()
	for _, frames := range []int{2, 4, 64} {
		b := newTree(t, frames, 64)
		for i, c := range script(11, 400, 60) {
			b.ok("turn", b.turn(c))
			switch {
			case i%97 == 96:
				b.ok("FlushAll", b.p.FlushAll())
			case i%61 == 60:
				b.x.Mark(b.append(api.Rec{Kind: api.RecCheck}))
			case i%13 == 12:
				b.p.Flush(i % 7)
			}
			want := b.l.End()
			whole := map[int]int{}
			recs, places := b.l.Records()
			for k, r := range recs {
				for _, image := range r.Images {
					whole[image.Page] = places[k]
				}
			}
			for _, d := range b.p.Table() {
				want = min(want, d.Rec, whole[d.Page])
			}
			b.wantRedo("of many", want)
		}
	}
}

// Promise 11.5.

func TestTreesThatNobodyMade(t *testing.T) {
	for _, x := range []*tree.Tree{nil, {}} {
		wantNothing(t, x, api.ErrState)
		wantErr(t, "Create", x.Create(), api.ErrState)
		_, err := x.Place("a", 52)
		wantErr(t, "Place of 52", err, api.ErrState)
		wantErr(t, "Change with no act", x.Change(1, 1, 0, api.Cell{}), api.ErrState)
		x.Mark(7)
		if got := x.Redo(); got != 0 {
			t.Errorf("Redo: %d", got)
		}
	}
}

// A pool and a log that nobody made tell their own errors.
func TestPoolAndLogThatNobodyMade(t *testing.T) {
	b := newBench(t, 8, 8, 40)
	x := tree.New(&pool.Pool{}, b.l)
	wantErr(t, "Create", x.Create(), api.ErrFull)
	_, _, err := x.Get("a")
	wantErr(t, "Get", err, api.ErrState)
	wantErr(t, "Cover", x.Cover(0), api.ErrState)
	if x.Born() || x.Check() || x.Free() != 0 || x.Height() != 0 || x.Redo() != b.l.End() {
		t.Errorf("Born %v, Check %v, Free %d, Height %d, Redo %d", x.Born(), x.Check(), x.Free(), x.Height(), x.Redo())
	}
	b.wantUnturned("a log that nobody made", func() {
		x := tree.New(b.p, &wal.Log{})
		wantErr(t, "Create", x.Create(), api.ErrState)
		if x.Born() {
			t.Errorf("Born")
		}
	})
}

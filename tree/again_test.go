package tree_test

import (
	"math"
	"math/rand"
	"slices"
	"strings"
	"testing"

	"gharry/api"
	"gharry/page"
	"gharry/pool"
	"gharry/tree"
)

// Promise 11.4.

// old is a bench without a tree, whose page 3 is a leaf with two cells, of the record 50.
func old(t *testing.T) *bench {
	t.Helper()
	b := newBench(t, 8, 8, 40)
	b.ok("Set", b.p.Set(3, oldText(), 50))
	return b
}

func oldText() string { return leaf(api.Cell{Key: "k", Val: "1"}, api.Cell{Key: "m", Val: "2"}) }

func (b *bench) wantPage(what string, id int, text string, lsn int) {
	b.t.Helper()
	got, at, err := b.p.Get(id)
	if got != text || at != lsn || err != api.OK {
		b.t.Errorf("%s: page %d is %q of %d, error %d; want %q of %d", what, id, got, at, err, text, lsn)
	}
}

func full(id int, text string) api.Rec {
	return api.Rec{Kind: api.RecFull, Images: []api.Image{{Page: id, Text: text}}}
}

func TestAgainOfAWholePage(t *testing.T) {
	for _, kind := range []int{api.RecFull, api.RecShape} {
		for lsn := 48; lsn <= 52; lsn++ {
			b := old(t)
			r := full(3, leaf())
			r.Kind = kind
			wantErr(t, "Again", tree.Again(b.p, r, lsn), api.OK)
			if lsn > 50 {
				b.wantPage("Again", 3, leaf(), lsn)
			} else {
				b.wantPage("Again", 3, oldText(), 50)
			}
			r.Images[0].Page = 5
			wantErr(t, "Again", tree.Again(b.p, r, lsn), api.OK)
			b.wantPage("of a page that was never written", 5, leaf(), lsn)
		}
	}
}

// Each image by itself: where a page has it, the others are laid all the same.
func TestAgainOfManyPages(t *testing.T) {
	b := old(t)
	b.ok("Set", b.p.Set(4, oldText(), 70))
	b.ok("Set", b.p.Set(5, oldText(), 60))
	var r api.Rec
	r.Kind = api.RecShape
	for _, id := range []int{4, 6, 3, 5, 0} {
		r.Images = append(r.Images, api.Image{Page: id, Text: strings.Repeat(string([]byte{byte(id)}), api.PageBytes)})
	}
	for range 3 {
		wantErr(t, "Again", tree.Again(b.p, r, 60), api.OK)
		b.wantPage("of a greater record", 4, oldText(), 70)
		b.wantPage("of the same record", 5, oldText(), 60)
		for _, id := range []int{0, 3, 6} {
			b.wantPage("of a lesser record", id, strings.Repeat(string([]byte{byte(id)}), api.PageBytes), 60)
		}
	}
	wantErr(t, "Again of no image", tree.Again(b.p, api.Rec{Kind: api.RecShape}, 99), api.OK)
}

func TestAgainOfWrongImages(t *testing.T) {
	right := api.Image{Page: 3, Text: leaf()}
	cases := []struct {
		image api.Image
		want  api.Errno
	}{
		{api.Image{Page: -1, Text: leaf()}, api.ErrRange},
		{api.Image{Page: 8, Text: leaf()}, api.ErrRange},
		{api.Image{Page: math.MaxInt, Text: "x"}, api.ErrRange},
		{api.Image{Page: 2, Text: ""}, api.ErrForm},
		{api.Image{Page: 2, Text: leaf()[1:]}, api.ErrForm},
		{api.Image{Page: 2, Text: leaf() + "x"}, api.ErrForm},
	}
	for _, c := range cases {
		for _, images := range [][]api.Image{{c.image}, {right, c.image}, {c.image, right}, {right, right, c.image}} {
			for _, kind := range []int{api.RecFull, api.RecShape} {
				b := old(t)
				b.wantUnturned("Again", func() {
					wantErr(t, "Again", tree.Again(b.p, api.Rec{Kind: kind, Images: images}, 90), c.want)
				})
			}
		}
	}
	b := old(t)
	b.wantUnturned("an image of what the page has", func() {
		wantErr(t, "Again", tree.Again(b.p, full(3, "x"), 50), api.OK)
		wantErr(t, "Again", tree.Again(b.p, full(3, "x"), 49), api.OK)
	})
	b.wantUnturned("which error comes first", func() {
		images := []api.Image{{Page: 2, Text: "x"}, {Page: 8, Text: leaf()}}
		wantErr(t, "Again", tree.Again(b.p, api.Rec{Kind: api.RecShape, Images: images}, 90), api.ErrForm)
		slices.Reverse(images)
		wantErr(t, "Again", tree.Again(b.p, api.Rec{Kind: api.RecShape, Images: images}, 90), api.ErrRange)
	})
}

// An image may be any 224 bytes.
func TestAgainOfWhatIsNoPage(t *testing.T) {
	b := old(t)
	text := strings.Repeat("\xee", api.PageBytes)
	wantErr(t, "Again", tree.Again(b.p, full(3, text), 51), api.OK)
	b.wantPage("Again", 3, text, 51)
}

// turns are records that turn page 3, and what it is then. Old of an insert and an update,
// New of a delete, are not looked at.
func turns() []struct {
	r    api.Rec
	want string
} {
	insert := api.Rec{Kind: api.RecInsert, Txn: 9, Prev: 4, Page: 3, Key: "l", Old: fill(99), New: "3"}
	remove := api.Rec{Kind: api.RecDelete, Txn: 9, Prev: 4, Page: 3, Key: "k", Old: "7", New: fill(99)}
	update := api.Rec{Kind: api.RecUpdate, Txn: 9, Prev: 4, Page: 3, Key: "m", Old: "7", New: "4"}
	inserted, _ := page.Insert(oldText(), api.Cell{Key: "l", Val: "3"})
	removed, _ := page.Delete(oldText(), "k")
	updated, _ := page.Update(oldText(), api.Cell{Key: "m", Val: "4"})
	l := []struct {
		r    api.Rec
		want string
	}{{insert, inserted}, {remove, removed}, {update, updated}}
	for i := range 3 {
		undo := l[i]
		undo.r.Act, undo.r.Kind = undo.r.Kind, api.RecUndo
		l = append(l, undo)
	}
	return l
}

func TestAgainOfAChange(t *testing.T) {
	for _, c := range turns() {
		for lsn := 48; lsn <= 52; lsn++ {
			b := old(t)
			for range 2 {
				wantErr(t, "Again", tree.Again(b.p, c.r, lsn), api.OK)
				if lsn > 50 {
					b.wantPage("Again", 3, c.want, lsn)
				} else {
					b.wantPage("Again", 3, oldText(), 50)
				}
			}
		}
		b := old(t)
		b.wantUnturned("a page that was never written", func() {
			c.r.Page = 5
			wantErr(t, "Again", tree.Again(b.p, c.r, 60), api.OK)
		})
	}
}

func TestAgainOfWhatCannotBe(t *testing.T) {
	change := func(act int, key, val string) api.Rec {
		return api.Rec{Kind: act, Page: 3, Key: key, New: val}
	}
	wrong := []api.Rec{
		change(api.RecInsert, "k", "1"),
		change(api.RecInsert, long('k')+"k", "1"),
		change(api.RecInsert, "a", fill(33)),
		change(api.RecDelete, "a", ""),
		change(api.RecDelete, "", ""),
		change(api.RecUpdate, "a", ""),
		change(api.RecUpdate, "k", fill(33)),
	}
	for i := range wrong {
		undo := wrong[i]
		undo.Act, undo.Kind = undo.Kind, api.RecUndo
		wrong = append(wrong, undo)
	}
	for _, act := range []int{math.MinInt, 0, 1, 2, 6, 7, math.MaxInt} {
		wrong = append(wrong, api.Rec{Kind: api.RecUndo, Act: act, Page: 3, Key: "k"})
	}
	for _, r := range wrong {
		b := old(t)
		b.wantUnturned("Again", func() {
			if err := tree.Again(b.p, r, 60); err != api.ErrDamage {
				t.Errorf("Again of %+v: error %d, want %d", r, err, api.ErrDamage)
			}
			wantErr(t, "Again where the page has it", tree.Again(b.p, r, 50), api.OK)
			r.Page = 5
			wantErr(t, "Again where the page is not there", tree.Again(b.p, r, 60), api.OK)
		})
	}
	for _, text := range []string{free(), strings.Repeat("\xee", api.PageBytes)} {
		for _, c := range turns() {
			b := old(t)
			b.ok("Set", b.p.Set(3, text, 51))
			b.wantUnturned("Again", func() {
				wantErr(t, "Again of a page that is no leaf", tree.Again(b.p, c.r, 60), api.ErrDamage)
			})
		}
	}
	b := old(t)
	b.ok("Set", b.p.Set(3, leaf(cellsOf("k", 220)...), 51))
	b.wantUnturned("Again", func() {
		wantErr(t, "Again without room", tree.Again(b.p, change(api.RecInsert, "a", ""), 60), api.ErrDamage)
	})
}

// What a kind does not need is not looked at.
func TestAgainOfOthers(t *testing.T) {
	b := old(t)
	b.wantUnturned("Again", func() {
		for kind := -1; kind < 20; kind++ {
			if kind >= api.RecFull && kind <= api.RecUndo {
				continue
			}
			for _, id := range []int{-1, 3, 5, 8} {
				r := api.Rec{Kind: kind, Act: api.RecInsert, Page: id, Key: "z", New: "z", Images: full(id, leaf()).Images}
				wantErr(t, "Again", tree.Again(b.p, r, 90), api.OK)
				wantErr(t, "Again", tree.Again(nil, r, 90), api.OK)
			}
		}
	})
	r := turns()[0].r
	r.Images = []api.Image{{Page: 3, Text: leaf()}, {Page: -4}}
	wantErr(t, "Again of a change, with images", tree.Again(b.p, r, 60), api.OK)
	b.wantPage("Again", 3, turns()[0].want, 60)
	r = full(3, leaf())
	r.Page, r.Key, r.Act = -1, "k", api.RecDelete
	wantErr(t, "Again of a whole page, with a key", tree.Again(b.p, r, 70), api.OK)
	b.wantPage("Again", 3, leaf(), 70)
}

// By no record nothing lacks.
func TestAgainByNoRecord(t *testing.T) {
	b := old(t)
	b.wantUnturned("Again", func() {
		for _, lsn := range []int{math.MinInt, -1, 0} {
			for _, id := range []int{3, 5} {
				wantErr(t, "Again", tree.Again(b.p, full(id, leaf()), lsn), api.OK)
				r := turns()[1].r
				r.Page = id
				wantErr(t, "Again", tree.Again(b.p, r, lsn), api.OK)
			}
		}
	})
}

func TestAgainRefuses(t *testing.T) {
	b := old(t)
	all := []api.Rec{full(3, leaf())}
	for _, c := range turns() {
		all = append(all, c.r)
	}
	for _, r := range all {
		for _, p := range []*pool.Pool{nil, {}} {
			wantErr(t, "Again of no pool", tree.Again(p, r, 90), api.ErrState)
		}
		for _, id := range []int{math.MinInt, -1, 8, math.MaxInt} {
			r := r
			r.Page, r.Images = id, full(id, leaf()).Images
			b.wantUnturned("Again", func() {
				wantErr(t, "Again of no page", tree.Again(b.p, r, 90), api.ErrRange)
				wantErr(t, "Again of no page", tree.Again(b.p, r, 0), api.ErrRange)
			})
		}
	}
	b = old(t)
	b.ok("Crash", b.d.Crash(0))
	for _, r := range all {
		r.Page = 5
		if r.Images != nil {
			r.Images[0].Page = 5
		}
		wantErr(t, "Again without power", tree.Again(b.p, r, 90), api.ErrDown)
	}
	if dirty := b.p.Table(); !slices.Equal(dirty, []api.Dirty{{Page: 3, Rec: 50}}) {
		t.Errorf("dirty: %v", dirty)
	}
}

// A record tells a page twice: behind the first time the page has it.
func TestAgainOfAPageTwice(t *testing.T) {
	b := old(t)
	r := api.Rec{Kind: api.RecShape, Images: []api.Image{{Page: 3, Text: leaf()}, {Page: 3, Text: oldText()}}}
	wantErr(t, "Again", tree.Again(b.p, r, 60), api.OK)
	b.wantPage("Again", 3, leaf(), 60)
	b.wantUnturned("once more", func() { wantErr(t, "Again", tree.Again(b.p, r, 60), api.OK) })
}

// A page is torn: what turns it is passed over, until it stands in the log as a whole.
func TestAgainOfATornPage(t *testing.T) {
	for keep := range uint64(1 << api.PageSectors) {
		b := newBench(t, 4, 8, 400)
		b.ok("Write", b.s.Write(3, oldText(), 50))
		b.ok("Sync", b.s.Sync())
		later, _ := page.Insert(oldText(), api.Cell{Key: "l", Val: "3"})
		b.ok("Write", b.s.Write(3, later, 60))
		b.ok("Crash", b.d.Crash(keep))
		b.ok("Start", b.d.Start())
		b.open(2)
		insert := api.Rec{Kind: api.RecInsert, Page: 3, Key: "l", New: "3"}
		remove := api.Rec{Kind: api.RecDelete, Page: 3, Key: "k"}
		without, _ := page.Delete(later, "k")
		last, _ := page.Update(without, api.Cell{Key: "m", Val: "9"})
		wantErr(t, "Again", tree.Again(b.p, insert, 60), api.OK)
		wantErr(t, "Again", tree.Again(b.p, remove, 70), api.OK)
		switch keep {
		case 0, 15:
			b.wantPage("whole", 3, without, 70)
		default:
			b.wantPage("torn", 3, "", 0)
		}
		wantErr(t, "Again", tree.Again(b.p, full(3, without), 80), api.OK)
		b.wantPage("whole again", 3, without, 80)
		wantErr(t, "Again", tree.Again(b.p, api.Rec{Kind: api.RecUpdate, Page: 3, Key: "m", New: "9"}, 90), api.OK)
		b.wantPage("turned", 3, last, 90)
	}
}

// With an error nothing is done of a record that lays many pages, if there are frames for all.
func TestAgainWithPinnedFrames(t *testing.T) {
	b := newBench(t, 4, 9, 40)
	r := api.Rec{Kind: api.RecShape}
	for id := range 5 {
		r.Images = append(r.Images, api.Image{Page: id, Text: leaf()})
	}
	for id := 5; id < 9; id++ {
		b.ok("Pin", b.p.Pin(id))
	}
	wantErr(t, "Again, with all frames pinned", tree.Again(b.p, r, 7), api.ErrFull)
	if len(b.p.Table()) != 0 {
		t.Errorf("dirty: %v", b.p.Table())
	}
	b.ok("Unpin", b.p.Unpin(6))
	wantErr(t, "Again, with one frame", tree.Again(b.p, r, 7), api.OK)
	b.ok("Unpin", b.p.Unpin(5))
	b.ok("Unpin", b.p.Unpin(7))
	b.ok("Unpin", b.p.Unpin(8))
	for id := range 9 {
		want := version{leaf(), 7}
		if id > 4 {
			want = version{}
		}
		b.wantPage("Again", id, want.text, want.lsn)
		wantErr(t, "Unpin: nothing is pinned any more", b.p.Unpin(id), api.ErrNone)
	}
}

// Promise 11.6.

// All records, one by one, from an empty pool of any size: behind each there is a tree;
// any of them done twice, or all once more, change nothing.
func TestAllAgain(t *testing.T) {
	t.Parallel()
	b := newTree(t, 64, 48)
	for i, c := range script(21, 500, 70) {
		b.ok("turn", b.turn(c))
		if i%90 == 89 {
			b.x.Mark(b.append(api.Rec{Kind: api.RecCheck}))
		}
	}
	b.wantTree()
	r := rand.New(rand.NewSource(4))
	recs, places := b.l.Records()
	for _, frames := range []int{2, 3, 7, 64} {
		p := emptyPool(t, b.l, frames, b.pages)
		x := tree.New(p, b.l)
		for i := range recs {
			b.ok("Again", tree.Again(p, recs[i], places[i]))
			if frames < 64 {
				continue
			}
			if !x.Check() {
				t.Fatalf("no tree behind the record %d: %s", places[i], look(p).wrong)
			}
			before := versions(t, p)
			for range 3 {
				k := r.Intn(i + 1)
				b.ok("Again", tree.Again(p, recs[k], places[k]))
			}
			if !slices.Equal(before, versions(t, p)) {
				t.Fatalf("a record ahead of %d, done again, changes something", places[i])
			}
		}
		b.wantSamePages(p)
		again(t, p, b.l, 1)
		b.wantSamePages(p)
	}
}

// RecUndo, done again, is as the act that it does.
func TestUndoAgain(t *testing.T) {
	b := newTree(t, 8, 8)
	undo := func(act int, key, val string) {
		t.Helper()
		id, err := b.x.Leaf(key)
		b.ok("Leaf", err)
		b.ok("Cover", b.x.Cover(id))
		at := b.append(api.Rec{Kind: api.RecUndo, Txn: 1, Act: act, Page: id, Key: key, Old: b.cells[key], New: val})
		b.ok("Change", b.x.Change(id, at, act, api.Cell{Key: key, Val: val}))
	}
	b.puts(api.Cell{Key: "a", Val: "1"}, api.Cell{Key: "b", Val: "2"})
	undo(api.RecUpdate, "a", "3")
	undo(api.RecDelete, "b", "")
	undo(api.RecInsert, "c", "4")
	b.cells = map[string]string{"a": "3", "c": "4"}
	b.wantTree()
	b.wantRedone()
}

// Whatever the pool's size, the same is told, and the same stands in the log.
func TestPoolsOfAnySize(t *testing.T) {
	t.Parallel()
	var first string
	for _, frames := range []int{2, 3, 4, 5, 8, 64} {
		b := newTree(t, frames, 48)
		for i, c := range script(31, 500, 70) {
			b.ok("turn", b.turn(c))
			if i%50 == 0 {
				b.wantTree()
			}
		}
		b.wantTree()
		b.wantRedone()
		b.ok("Flush", b.l.Flush())
		text, err := b.l.From(1, 1<<30)
		b.ok("From", err)
		if first == "" {
			first = text
		}
		if text != first {
			t.Errorf("%d frames: another log than with 2", frames)
		}
	}
}

// Steps of all kinds, with all that the tree tells behind each.
func TestRandomSteps(t *testing.T) {
	t.Parallel()
	heights := map[int]bool{}
	for seed := range int64(8) {
		b := newTree(t, 2+int(seed)*3, 50)
		for _, c := range script(100+seed, 300, 20+30*int(seed)) {
			if err := b.turn(c); err == api.ErrFull {
				b.wantTree()
				continue
			} else {
				b.ok("turn", err)
			}
			b.wantTree()
			heights[b.x.Height()] = true
		}
		b.wantRedone()
	}
	if !heights[1] || !heights[2] || !heights[3] {
		t.Errorf("heights: %v", heights)
	}
}

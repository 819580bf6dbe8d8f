package fold_test

import (
	"math"
	"math/rand"
	"slices"
	"strconv"
	"strings"
	"testing"

	"gharry/api"
	"gharry/fold"
	"gharry/page"
	"gharry/wal"
)

// Promise 16.1: New, Note, Cells, Count, Get, Going.

func TestNewIsNothing(t *testing.T) {
	f := fold.New()
	wantFace(t, "nothing", f, face{})
	for _, key := range []string{"", "a", strings.Repeat("k", 17), "\xff\x00"} {
		wantGet(t, "nothing", f, key, "", false)
	}
	f.Note(insert(1, "a", "1"))
	f.Note(commit(1))
	wantFace(t, "another one", fold.New(), face{})
}

// Example 1.
func TestExample(t *testing.T) {
	f := noted(insert(1, "a", "x"), commit(1), remove(2, "a", "x"))
	wantFace(t, "a delete that goes on", f, face{cells("a", "x"), 1, []int{2}})
	f.Note(commit(2))
	wantFace(t, "a delete that was committed", f, face{nil, 2, nil})
	wantGet(t, "a delete that was committed", f, "a", "", false)
}

// What each kind of record does with its key, a, of transaction 5.
const (
	nothing = iota
	gives   // the value new
	takes
	ends
	commits
)

type kind struct {
	why  string
	r    api.Rec
	what int
}

func kinds() []kind {
	text, _ := page.New(page.Leaf, 0)
	image := api.Image{Page: 5, Text: text}
	l := []kind{
		{"a page as it is", api.Rec{Kind: api.RecFull, Images: []api.Image{image}}, nothing},
		{"pages that are laid anew", api.Rec{Kind: api.RecShape, Images: []api.Image{image, image}}, nothing},
		{"an insert", insert(5, "a", "new"), gives},
		{"a delete", remove(5, "a", "old"), takes},
		{"an update", update(5, "a", "old", "new"), gives},
		{"an insert that takes back", undo(api.RecInsert, 5, "a", "", "new"), gives},
		{"a delete that takes back", undo(api.RecDelete, 5, "a", "old", ""), takes},
		{"an update that takes back", undo(api.RecUpdate, 5, "a", "old", "new"), gives},
		{"a commit", commit(5), commits},
		{"an end", end(5), ends},
		{"a check", api.Rec{Kind: api.RecCheck, Table: []api.Active{{Txn: 5, Last: 1}, {Txn: 6, Last: 2}}}, nothing},
		{"an epoch", api.Rec{Kind: api.RecEpoch, Epoch: 5, Node: 1}, nothing},
		{"no record", api.Rec{}, nothing},
	}
	for _, act := range []int{0, 1, 2, 6, 7, 8, 9, 10, 11, -1, math.MaxInt, math.MinInt} {
		l = append(l, kind{"an undo of the act " + strconv.Itoa(act), undo(act, 5, "a", "old", "new"), nothing})
	}
	for _, no := range []int{0, 11, 12, -1, -3, 255, 256 + api.RecInsert, math.MaxInt, math.MinInt} {
		l = append(l, kind{"the kind " + strconv.Itoa(no), api.Rec{Kind: no, Txn: 5, Key: "a", New: "new"}, nothing})
	}
	return l
}

// fill gives values to the fields that a record's kind does not need: they are not looked at (R5).
func fill(k kind) api.Rec {
	r := k.r
	for _, text := range []*string{&r.Key, &r.Old, &r.New} {
		if *text == "" {
			*text = "filled"
		}
	}
	for _, n := range []*int{&r.Txn, &r.Prev, &r.Page, &r.Next, &r.Epoch, &r.Node} {
		if *n == 0 {
			*n = 5
		}
	}
	if r.Act == 0 && r.Kind != api.RecUndo {
		r.Act = api.RecInsert
	}
	r.Images = append(r.Images, api.Image{Page: 5, Text: "filled"})
	r.Table = append(r.Table, api.Active{Txn: 5, Last: 5})
	return r
}

// behind is what a fold tells behind a record of a kind, and what it tells when transaction
// 5 is committed behind that, if a had a value that was committed ahead.
func (k kind) behind(had []api.Cell, count int) (face, face) {
	now := face{cells: had, count: count}
	then := face{cells: had, count: count + 1}
	switch k.what {
	case gives:
		now.going = []int{5}
		then.cells = cells("a", "new")
	case takes:
		now.going = []int{5}
		then.cells = nil
	case commits:
		now.count, then.count = count+1, count+2
	}
	return now, then
}

func TestNoteOfEachKind(t *testing.T) {
	for _, k := range kinds() {
		for _, r := range []api.Rec{k.r, fill(k)} {
			f := fold.New()
			f.Note(r)
			now, then := k.behind(nil, 0)
			wantFace(t, k.why, f, now)
			f.Note(commit(5))
			wantFace(t, "a commit behind "+k.why, f, then)

			had := cells("a", "had")
			f = noted(insert(1, "a", "had"), commit(1), r)
			now, then = k.behind(had, 1)
			wantFace(t, "where a had a value: "+k.why, f, now)
			f.Note(fill(kind{r: commit(5)}))
			wantFace(t, "where a had a value: a commit behind "+k.why, f, then)
		}
	}
}

// What was turned ahead is turned again, committed or gone, as a record says.
func TestNoteOfEachKindBehindAnother(t *testing.T) {
	for _, k := range kinds() {
		for _, r := range []api.Rec{k.r, fill(k)} {
			f := noted(insert(1, "a", "had"), commit(1), update(5, "a", "had", "first"), insert(5, "b", "b"), r)
			want := face{cells("a", "had"), 1, []int{5}}
			then := face{cells("a", "first", "b", "b"), 2, nil}
			switch k.what {
			case gives:
				then.cells = cells("a", "new", "b", "b")
			case takes:
				then.cells = cells("b", "b")
			case ends:
				want.going = nil
				then.cells = cells("a", "had")
			case commits:
				want = face{cells("a", "first", "b", "b"), 2, nil}
				then.count = 3
			}
			wantFace(t, "behind others: "+k.why, f, want)
			f.Note(commit(5))
			wantFace(t, "behind others: a commit behind "+k.why, f, then)
		}
	}
}

// What the keys have now is committed: what they had in between is not.
func TestTheLastTurnHolds(t *testing.T) {
	f := noted(insert(1, "a", "1"), insert(1, "b", "1"), insert(1, "c", "1"), commit(1))
	for _, r := range []api.Rec{
		update(2, "a", "1", "2"), update(2, "a", "2", "3"), // another value
		remove(2, "b", "1"), insert(2, "b", "9"), // away, and there again
		update(2, "c", "1", "4"), remove(2, "c", "4"), // away in the end
		insert(2, "d", "5"), remove(2, "d", "5"), // never there
		insert(2, "e", "6"), undo(api.RecDelete, 2, "e", "6", ""), // taken back
		remove(2, "a", "3"), undo(api.RecInsert, 2, "a", "", "3"), // taken back, too
	} {
		f.Note(r)
		wantFace(t, "going on", f, face{cells("a", "1", "b", "1", "c", "1"), 1, []int{2}})
	}
	f.Note(commit(2))
	wantFace(t, "committed", f, face{cells("a", "3", "b", "9"), 2, nil})
	for _, key := range []string{"c", "d", "e", ""} {
		wantGet(t, "committed", f, key, "", false)
	}
}

// An empty value is one; what is taken away is none.
func TestEmptyValuesAndKeys(t *testing.T) {
	f := noted(insert(1, "a", ""), insert(1, "", "e"), commit(1))
	wantFace(t, "empty ones", f, face{cells("", "e", "a", ""), 1, nil})
	f.Note(update(2, "", "e", ""))
	f.Note(remove(2, "a", ""))
	f.Note(commit(2))
	wantFace(t, "empty ones", f, face{cells("", ""), 2, nil})
	wantGet(t, "empty ones", f, "a", "", false)
	f.Note(remove(3, "", ""))
	f.Note(commit(3))
	wantFace(t, "none", f, face{nil, 3, nil})
}

// Each transaction has its own, whoever is committed first.
func TestTransactionsSideBySide(t *testing.T) {
	f := noted(insert(1, "a", "1"), insert(2, "b", "2"), insert(3, "c", "3"), insert(2, "d", "2"))
	wantFace(t, "three", f, face{nil, 0, []int{1, 2, 3}})
	f.Note(commit(2))
	wantFace(t, "2 committed", f, face{cells("b", "2", "d", "2"), 1, []int{1, 3}})
	f.Note(end(3))
	wantFace(t, "3 ended", f, face{cells("b", "2", "d", "2"), 1, []int{1}})
	f.Note(insert(2, "e", "2"))
	wantFace(t, "2 begun again", f, face{cells("b", "2", "d", "2"), 1, []int{1, 2}})
	f.Note(commit(1))
	wantFace(t, "1 committed", f, face{cells("a", "1", "b", "2", "d", "2"), 2, []int{2}})
	f.Note(commit(3))
	wantFace(t, "3 has nothing more", f, face{cells("a", "1", "b", "2", "d", "2"), 3, []int{2}})
}

// Of two that turned one key the later commit holds, whoever turned it first.
func TestTheLaterCommitHolds(t *testing.T) {
	f := noted(insert(1, "a", "1"), insert(2, "a", "2"), commit(2))
	wantGet(t, "2 committed", f, "a", "2", true)
	f.Note(commit(1))
	wantFace(t, "both committed", f, face{cells("a", "1"), 2, nil})
}

// A number that comes again has nothing of what it did ahead of its commit, or its end.
func TestNumbersAgain(t *testing.T) {
	for _, over := range []api.Rec{commit(5), end(5)} {
		f := noted(insert(5, "a", "1"), over, insert(9, "b", "9"), remove(9, "a", "1"), commit(9), insert(5, "c", "2"), commit(5))
		got, is := f.Get("a")
		if got != "" || is {
			t.Errorf("behind the kind %d: a has %q again", over.Kind, got)
		}
		wantGet(t, "again", f, "c", "2", true)
	}
}

// Count counts all commits, of those who turned nothing, too.
func TestCount(t *testing.T) {
	f := fold.New()
	for i := range 20 {
		f.Note(commit(i % 3))
		f.Note(end(i % 3))
		wantFace(t, "commits of nothing", f, face{count: i + 1})
	}
}

// Keys rise byte by byte, numbers as numbers, whatever the order of their records, and of a map.
func TestRising(t *testing.T) {
	rng := rand.New(rand.NewSource(1))
	numbers := []int{math.MinInt, -3, -1, 0, 1, 2, 9, 10, 11, 1<<48 - 1, 1 << 48, math.MaxInt}
	keys := []string{"", "\x00", "\x00\x00", "A", "a", "a\x00", "aa", "ab", "b", "ba", "\x7f", "\x80", "\xc3\xa4", "\xff",
		"\xff\xff", strings.Repeat("\xff", 40)}
	for range 50 {
		f := fold.New()
		for _, i := range rng.Perm(len(numbers)) {
			f.Note(insert(numbers[i], "k", ""))
		}
		wantFace(t, "numbers", f, face{going: numbers})
		var want []api.Cell
		for i, key := range keys {
			want = append(want, api.Cell{Key: key, Val: strconv.Itoa(i)})
		}
		f = fold.New()
		for _, i := range rng.Perm(len(keys)) {
			f.Note(insert(rng.Intn(2), keys[i], want[i].Val))
		}
		f.Note(commit(0))
		f.Note(commit(1))
		wantFace(t, "keys", f, face{want, 2, nil})
	}
}

// What is answered is new memory, and stays as it was told (R3).
func TestAnswersStay(t *testing.T) {
	f := noted(insert(1, "a", "1"), insert(1, "b", "1"), insert(1, "c", "1"), commit(1), insert(2, "a", "2"), insert(3, "a", "3"))
	one, other := f.Cells(), f.Cells()
	going := f.Going()
	one[0] = api.Cell{Key: "z", Val: "z"}
	_ = append(one[:1], api.Cell{Key: "y"})
	going[0] = 77
	want := face{cells("a", "1", "b", "1", "c", "1"), 1, []int{2, 3}}
	wantFace(t, "behind a change of an answer", f, want)
	for _, r := range []api.Rec{remove(2, "a", "1"), insert(2, "b0", ""), commit(2), update(3, "b", "1", "3"), commit(3)} {
		f.Note(r)
	}
	if !slices.Equal(other, want.cells) {
		t.Errorf("an answer has turned: %q", other)
	}
	wantFace(t, "in the end", f, face{cells("a", "3", "b", "3", "b0", "", "c", "1"), 3, nil})
}

// Promise 16.2: Of, Steps, Key, When.

// logged has all kinds of records, and each way for a transaction to end; a has a value, none
// and one again.
func logged(t *testing.T) (*bench, []api.Rec, []int) {
	b := newBench(t)
	var places []int
	text, _ := page.New(page.Leaf, 0)
	records := []api.Rec{
		{Kind: api.RecEpoch, Epoch: 1, Node: 1},
		insert(1, "a", "1"), insert(2, "b", "2"), commit(1), // a
		undo(api.RecDelete, 2, "b", "2", ""), end(2),
		remove(3, "a", "1"), insert(4, "c", ""), {Kind: api.RecCheck, Table: []api.Active{{Txn: 3, Last: 1}}},
		commit(3), commit(4), // a goes; c
		insert(5, "a", "5"), {Kind: api.RecFull, Images: []api.Image{{Page: 1, Text: text}}},
		update(5, "a", "5", "55"), commit(5), commit(6), // a is there again; nothing
		update(7, "a", "55", "7"), undo(api.RecUpdate, 7, "a", "7", "55"), commit(7), // a as it was
		update(8, "a", "55", "8"), undo(api.RecUpdate, 8, "a", "8", "55"), end(8),
		{Kind: api.RecShape, Images: []api.Image{{Page: 1, Text: text}, {Page: 2, Text: text}}},
		remove(9, "c", ""), insert(9, "d", "9"),
	}
	for _, r := range records {
		places = append(places, b.add(r))
	}
	return b, records, places
}

func TestOfAtEachPlace(t *testing.T) {
	b, records, places := logged(t)
	for end := -2; end < b.l.End()+3; end++ {
		many, _ := slices.BinarySearch(places, end)
		f := noted(records[:many]...)
		wantFace(t, "ahead of "+strconv.Itoa(end), fold.Of(b.l, end), face{f.Cells(), f.Count(), f.Going()})
	}
	wantFace(t, "ahead of all", fold.Of(b.l, math.MinInt), face{})
	all := face{cells("a", "55", "c", ""), 6, []int{9}}
	wantFace(t, "all", fold.Of(b.l, b.l.End()), all)
	wantFace(t, "far behind all", fold.Of(b.l, math.MaxInt), all)
}

// A record is ahead of a place if it begins there: its own place is the first that it is not ahead of.
func TestOfAtTheEdges(t *testing.T) {
	b := newBench(t, insert(1, "a", "1"))
	at := b.add(commit(1))
	wantFace(t, "at the first place", fold.Of(b.l, 1), face{})
	wantFace(t, "behind the first place", fold.Of(b.l, 2), face{going: []int{1}})
	wantFace(t, "at the commit", fold.Of(b.l, at), face{going: []int{1}})
	wantFace(t, "behind the commit's place", fold.Of(b.l, at+1), face{cells("a", "1"), 1, nil})
}

// A fold goes on behind what Of gave, and its log does not.
func TestOfGoesOn(t *testing.T) {
	b := newBench(t, insert(1, "a", "1"), insert(2, "b", "2"))
	f := fold.Of(b.l, b.l.End())
	f.Note(commit(1))
	wantFace(t, "a note", f, face{cells("a", "1"), 1, []int{2}})
	wantFace(t, "the log", fold.Of(b.l, b.l.End()), face{going: []int{1, 2}})
	b.add(commit(2))
	wantFace(t, "the log went on", f, face{cells("a", "1"), 1, []int{2}})
	wantFace(t, "the log went on, anew", fold.Of(b.l, b.l.End()), face{cells("b", "2"), 1, []int{1}})
}

func TestSteps(t *testing.T) {
	b, _, _ := logged(t)
	last := cells("a", "55", "c", "")
	wantSteps(t, "all kinds", b.l, nil, cells("a", "1"), nil, cells("c", ""), last, last, last)
	wantSteps(t, "nothing", newBench(t).l, nil)
	wantSteps(t, "no commit", newBench(t, insert(1, "a", "1"), end(2)).l, nil)
	wantSteps(t, "a commit of nothing", newBench(t, commit(1)).l, nil, nil)
}

// No two steps share memory.
func TestStepsShareNothing(t *testing.T) {
	b := newBench(t, insert(1, "a", "1"), insert(1, "b", "1"), commit(1), commit(2), insert(3, "c", "3"), commit(3))
	for i := range 4 {
		steps := fold.Steps(b.l)
		for j := range steps[i] {
			steps[i][j].Val = "turned"
		}
		_ = append(steps[i], api.Cell{Key: "turned"})
		for j, want := range [][]api.Cell{nil, cells("a", "1", "b", "1"), cells("a", "1", "b", "1"), cells("a", "1", "b", "1", "c", "3")} {
			if j != i && !slices.Equal(steps[j], want) {
				t.Errorf("step %d has turned with step %d: %q", j, i, steps[j])
			}
		}
	}
}

func TestKeyAndWhen(t *testing.T) {
	b, records, places := logged(t)
	commits := map[int]int{} // of each transaction
	for i, r := range records {
		if r.Kind == api.RecCommit {
			commits[r.Txn] = places[i]
		}
	}
	changes := map[string][]fold.Change{
		"a": {{At: commits[1], Val: "1", Is: true}, {At: commits[3]}, {At: commits[5], Val: "55", Is: true}, {At: commits[7], Val: "55", Is: true}},
		"b": nil, "c": {{At: commits[4], Is: true}}, "d": nil, "": nil, "aa": nil, strings.Repeat("k", 99): nil,
	}
	for key, want := range changes {
		wantKey(t, "all kinds", b.l, key, want...)
		for end := -2; end < b.l.End()+3; end++ {
			var last fold.Change
			for _, c := range want {
				if c.At < end {
					last = c
				}
			}
			wantWhen(t, "all kinds", b.l, key, end, last.Val, last.Is)
		}
	}
	wantWhen(t, "all kinds", b.l, "a", math.MinInt, "", false)
	wantWhen(t, "all kinds", b.l, "a", math.MaxInt, "55", true)
}

// Who turned a key, and turned it back, turned it; who ended did not; nor did who turned another one.
func TestKeyOfWhoTurned(t *testing.T) {
	b := newBench(t, insert(1, "a", "1"), undo(api.RecDelete, 1, "a", "1", ""), insert(1, "b", "1"))
	at := b.add(commit(1))
	wantKey(t, "taken back", b.l, "a", fold.Change{At: at})
	wantKey(t, "kept", b.l, "b", fold.Change{At: at, Val: "1", Is: true})
	b.add(insert(2, "a", "2"))
	b.add(end(2))
	b.add(commit(2))
	b.add(insert(1, "c", "1"))
	b.add(commit(1))
	wantKey(t, "ended, and turned by a number's first transaction", b.l, "a", fold.Change{At: at})
	wantWhen(t, "taken back", b.l, "a", b.l.End(), "", false)
	b.add(insert(3, "a", "3"))
	wantKey(t, "going on", b.l, "a", fold.Change{At: at})
}

// What looks like a record within another one is none.
func TestLookAlikes(t *testing.T) {
	b := newBench(t, insert(1, "a", "1"))
	b.lookAlike(2, "k", commit(1))
	wantFace(t, "a look-alike", fold.Of(b.l, b.l.End()), face{going: []int{1, 2}})
	wantSteps(t, "a look-alike", b.l, nil)
	wantKey(t, "a look-alike", b.l, "a")
	at := b.add(commit(1))
	wantKey(t, "a commit", b.l, "a", fold.Change{At: at, Val: "1", Is: true})
}

// A log is asked, and nothing else is done with it.
func TestLogsStay(t *testing.T) {
	b, _, _ := logged(t)
	end, durable, run := b.l.End(), b.l.Durable(), b.l.Run()
	fold.Of(b.l, end)
	fold.Steps(b.l)
	fold.Key(b.l, "a")
	fold.When(b.l, "a", end)
	if b.l.End() != end || b.l.Durable() != durable || b.l.Run() != run {
		t.Errorf("the log ends at %d, lasts to %d, in the run %d", b.l.End(), b.l.Durable(), b.l.Run())
	}
}

// Promise 16.3: Same, Diff.

func TestSameAndDiff(t *testing.T) {
	for _, c := range []struct {
		why  string
		a, b []api.Cell
		same bool
		diff []string
	}{
		{"nothing", nil, nil, true, nil},
		{"nil and empty", nil, []api.Cell{}, true, nil},
		{"one", cells("a", "1"), cells("a", "1"), true, nil},
		{"another value", cells("a", "1"), cells("a", "2"), false, []string{"a"}},
		{"another key", cells("a", "1"), cells("b", "1"), false, []string{"a", "b"}},
		{"more in a", cells("a", "1", "b", "2"), cells("a", "1"), false, []string{"b"}},
		{"more in b", cells("a", "1"), cells("a", "1", "b", "2"), false, []string{"b"}},
		{"only a", cells("b", "1", "a", "1"), nil, false, []string{"a", "b"}},
		{"only b", nil, cells("b", "1", "a", "1"), false, []string{"a", "b"}},
		{"an empty value in a", cells("a", ""), nil, false, []string{"a"}},
		{"an empty value in b", nil, cells("a", ""), false, []string{"a"}},
		{"empty values", cells("a", ""), cells("a", ""), true, nil},
		{"an empty value, and one", cells("a", ""), cells("a", "1"), false, []string{"a"}},
		{"an empty key in a", cells("", "1"), nil, false, []string{""}},
		{"an empty key in b", nil, cells("", ""), false, []string{""}},
		{"other values crosswise", cells("a", "1", "b", "2"), cells("a", "2", "b", "1"), false, []string{"a", "b"}},
		{"another order", cells("a", "1", "b", "2"), cells("b", "2", "a", "1"), false, nil},
		{"rising", cells("b", "1", "\xff", "1", "a", "1"), cells("aa", "1", "\x00", "1", "b", "1"), false, []string{"\x00", "a", "aa", "\xff"}},

		{"the later one of a is as b", cells("a", "1", "a", "2"), cells("a", "2"), false, nil},
		{"the earlier one of a is as b", cells("a", "1", "a", "2"), cells("a", "1"), false, []string{"a"}},
		{"twice in a", cells("a", "1", "a", "1"), cells("a", "1"), false, nil},
		{"twice in a, not in b", cells("a", "1", "a", "2"), nil, false, []string{"a"}},
		{"twice in b", cells("a", "1"), cells("a", "1", "a", "1"), false, nil},
		{"the later one of b is as a", cells("a", "2"), cells("a", "1", "a", "2"), false, []string{"a"}},
		{"the earlier one of b is as a", cells("a", "1"), cells("a", "1", "a", "2"), false, []string{"a"}},
		{"none of b is as a", cells("a", "1"), cells("a", "2", "b", "1", "a", "3"), false, []string{"a", "b"}},
		{"twice in b, not in a", nil, cells("a", "1", "b", "1", "a", "1"), false, []string{"a", "b"}},
		{"twice in both", cells("a", "1", "a", "2"), cells("a", "1", "a", "2"), true, []string{"a"}},
		{"twice in both, as the later one", cells("a", "1", "a", "2"), cells("a", "2", "a", "2"), false, nil},
	} {
		a, b := slices.Clone(c.a), slices.Clone(c.b)
		if got := fold.Same(a, b); got != c.same {
			t.Errorf("Same, %s: %v", c.why, got)
		}
		if got := fold.Same(b, a); got != c.same {
			t.Errorf("Same the other way, %s: %v", c.why, got)
		}
		if got := fold.Diff(a, b); !slices.Equal(got, c.diff) {
			t.Errorf("Diff, %s: %q, want %q", c.why, got, c.diff)
		}
		if !slices.Equal(a, c.a) || !slices.Equal(b, c.b) {
			t.Errorf("%s: what was handed in has turned: %q, %q", c.why, a, b)
		}
	}
}

// Nothing hangs on the order of a map (R4).
func TestDiffOfMany(t *testing.T) {
	rng := rand.New(rand.NewSource(1))
	for range 20 {
		var a, b []api.Cell
		var want []string
		for i := range 300 {
			c := api.Cell{Key: strconv.Itoa(1000 + i), Val: "1"}
			other := api.Cell{Key: c.Key, Val: "2"}
			switch i % 4 {
			case 0:
				a, b = append(a, c), append(b, c)
			case 1:
				a, b = append(a, c), append(b, other)
			case 2:
				a = append(a, c)
			case 3:
				b = append(b, c)
			}
			if i%4 > 0 {
				want = append(want, c.Key)
			}
		}
		for _, l := range [][]api.Cell{a, b} {
			rng.Shuffle(len(l), func(i, j int) { l[i], l[j] = l[j], l[i] })
		}
		if got := fold.Diff(a, b); !slices.Equal(got, want) {
			t.Fatalf("%q, want %q", got, want)
		}
	}
}

// Promise 16.4.

func TestNilFolds(t *testing.T) {
	var none *fold.Fold
	for why, f := range map[string]*fold.Fold{"a nil fold": none, "one that nobody made": {}} {
		for _, k := range kinds() {
			f.Note(k.r)
			wantFace(t, why, f, face{})
			wantGet(t, why, f, "a", "", false)
		}
		for _, r := range []api.Rec{insert(1, "a", "1"), commit(1), insert(2, "b", "2")} {
			f.Note(r)
		}
		wantFace(t, why, f, face{})
		wantGet(t, why, f, "a", "", false)
		wantGet(t, why, f, "", "", false)
	}
}

func TestNilLogs(t *testing.T) {
	for why, l := range map[string]*wal.Log{"a nil log": nil, "one that nobody made": {}} {
		for _, end := range []int{math.MinInt, -1, 0, 1, 2, math.MaxInt} {
			f := fold.Of(l, end)
			wantFace(t, why, f, face{})
			f.Note(insert(1, "a", "1"))
			f.Note(commit(1))
			wantFace(t, why+", and a note", f, face{cells("a", "1"), 1, nil})
			wantWhen(t, why, l, "a", end, "", false)
		}
		wantSteps(t, why, l, nil)
		wantKey(t, why, l, "a")
		wantKey(t, why, l, "")
	}
}

// Promise 16.5.

// A transaction that ends leaves nothing, whatever it did, and however much it took back.
func TestEndsLeaveNothing(t *testing.T) {
	ahead := []api.Rec{insert(1, "a", "1"), insert(1, "b", "1"), commit(1), insert(2, "c", "2")}
	gone := []api.Rec{
		update(7, "a", "1", "7"), remove(7, "b", "1"), insert(7, "d", "7"), insert(7, "e", "7"),
		undo(api.RecDelete, 7, "e", "7", ""), undo(api.RecInsert, 7, "b", "", "1"),
	}
	behind := []api.Rec{update(2, "c", "2", "3"), commit(2), insert(3, "f", "3")}
	for many := range len(gone) + 1 {
		without := newBench(t, slices.Concat(ahead, []api.Rec{end(99)}, behind)...)
		with := newBench(t, slices.Concat(ahead, gone[:many], []api.Rec{end(7)}, behind)...)
		f := fold.Of(without.l, without.l.End())
		wantFace(t, "an end", fold.Of(with.l, with.l.End()), face{f.Cells(), f.Count(), f.Going()})
		wantFace(t, "an end", f, face{cells("a", "1", "b", "1", "c", "3"), 2, []int{3}})
		wantSteps(t, "an end", with.l, fold.Steps(without.l)...)
		for _, key := range []string{"a", "b", "c", "d", "e", "f"} {
			if got, want := fold.Key(with.l, key), fold.Key(without.l, key); len(got) != len(want) {
				t.Errorf("Key(%q): %v, want %v", key, got, want)
			}
			val, is := fold.When(without.l, key, without.l.End())
			wantWhen(t, "an end", with.l, key, with.l.End(), val, is)
		}
		with.add(commit(7))
		with.add(commit(7))
		f = fold.Of(with.l, with.l.End())
		wantFace(t, "a commit behind an end", f, face{cells("a", "1", "b", "1", "c", "3"), 4, []int{3}})
	}
}

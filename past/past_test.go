package past_test

import (
	"math"
	"slices"
	"strings"
	"testing"

	"gharry/api"
	"gharry/past"
	"gharry/wal"
)

// Promise 14.1: Note.

func TestNewHasNobody(t *testing.T) {
	p := past.New()
	if p == nil {
		t.Fatal("New: nil")
	}
	wantFace(t, "New", p, face{})
	if p == past.New() {
		t.Error("New: the same past twice")
	}
}

func TestNoteTellsWhatTheKeyHad(t *testing.T) {
	for _, c := range []struct {
		why  string
		r    api.Rec
		want past.Was
	}{
		{"an insert", insert(5, "a", "1"), past.Was{}},
		{"an insert of nothing", insert(5, "a", ""), past.Was{}},
		{"an insert that has an Old", api.Rec{Kind: api.RecInsert, Txn: 5, Key: "a", Old: "x", New: "1"}, past.Was{}},
		{"a delete", remove(5, "a", "o"), past.Was{Val: "o", Is: true}},
		{"a delete of the empty value", remove(5, "a", ""), past.Was{Is: true}},
		{"a delete that has a New", api.Rec{Kind: api.RecDelete, Txn: 5, Key: "a", Old: "o", New: "n"}, past.Was{Val: "o", Is: true}},
		{"an update", update(5, "a", "o", "n"), past.Was{Val: "o", Is: true}},
		{"an update of the empty value", update(5, "a", "", "n"), past.Was{Is: true}},
		{"an update to the empty value", update(5, "a", "o", ""), past.Was{Val: "o", Is: true}},
		{"an update that has an Act", api.Rec{Kind: api.RecUpdate, Txn: 5, Act: api.RecInsert, Key: "a", Old: "o"}, past.Was{Val: "o", Is: true}},
	} {
		p := past.New()
		p.Note(c.r, 40)
		wantFace(t, c.why, p, face{
			table: []api.Active{{Txn: 5, Last: 40}},
			keys:  []keyed{{"a", c.want}},
			acts:  1,
		})
	}
}

func TestNoteOfAnyKey(t *testing.T) {
	for _, key := range []string{"", "\x00", "\xff", strings.Repeat("k", 16), strings.Repeat("k", 17)} {
		p := noted(update(5, key, "o", "n"))
		wantFace(t, "key "+key, p, face{
			table: []api.Active{{Txn: 5, Last: 1}},
			keys:  []keyed{{key, past.Was{Val: "o", Is: true}}},
			acts:  1,
		})
	}
}

func TestFirstRecordOfAKeyHolds(t *testing.T) {
	for _, c := range []struct {
		why     string
		records []api.Rec
		want    past.Was
	}{
		{"updated twice", []api.Rec{update(5, "a", "o", "n"), update(5, "a", "n", "m")}, past.Was{Val: "o", Is: true}},
		{"updated, and deleted", []api.Rec{update(5, "a", "o", "n"), remove(5, "a", "n")}, past.Was{Val: "o", Is: true}},
		{"inserted, and updated", []api.Rec{insert(5, "a", "n"), update(5, "a", "n", "m")}, past.Was{}},
		{"inserted, and deleted", []api.Rec{insert(5, "a", "n"), remove(5, "a", "n")}, past.Was{}},
		{"deleted, and inserted", []api.Rec{remove(5, "a", "o"), insert(5, "a", "n")}, past.Was{Val: "o", Is: true}},
		{"deleted, inserted, updated", []api.Rec{remove(5, "a", "o"), insert(5, "a", "n"), update(5, "a", "n", "m")}, past.Was{Val: "o", Is: true}},
		{"inserted, and taken back", []api.Rec{insert(5, "a", "n"), undo(5, api.RecDelete, "a", "n", "")}, past.Was{}},
		{"updated, and taken back", []api.Rec{update(5, "a", "o", "n"), undo(5, api.RecUpdate, "a", "n", "o")}, past.Was{Val: "o", Is: true}},
		{"taken back, and done anew", []api.Rec{remove(5, "a", "o"), undo(5, api.RecInsert, "a", "", "o"), update(5, "a", "x", "y")}, past.Was{Val: "o", Is: true}},
	} {
		wantFace(t, c.why, noted(c.records...), face{
			table: []api.Active{{Txn: 5, Last: len(c.records)}},
			keys:  []keyed{{"a", c.want}},
			acts:  1,
		})
	}
}

// What takes a record back tells nothing of its own: one who has such a record alone goes
// on, without a key.
func TestUndoTellsNothing(t *testing.T) {
	for _, act := range []int{api.RecInsert, api.RecDelete, api.RecUpdate, 0, 9} {
		p := noted(undo(5, act, "a", "o", "n"))
		wantFace(t, "an undo", p, face{table: []api.Active{{Txn: 5, Last: 1}}})
		p.Note(update(5, "a", "x", "y"), 7)
		wantFace(t, "an undo, and an update", p, face{
			table: []api.Active{{Txn: 5, Last: 7}},
			keys:  []keyed{{"a", past.Was{Val: "x", Is: true}}},
			acts:  1,
		})
	}
}

func TestCommitAndEndEndATransaction(t *testing.T) {
	for _, kind := range []int{api.RecCommit, api.RecEnd} {
		p := noted(insert(5, "a", "1"), update(6, "b", "2", "3"), insert(5, "c", "4"))
		p.Note(api.Rec{Kind: kind, Txn: 5, Prev: 3}, 4)
		left := face{
			table: []api.Active{{Txn: 6, Last: 2}},
			keys:  []keyed{{"b", past.Was{Val: "2", Is: true}}},
			acts:  1,
		}
		wantFace(t, "5 is over", p, left)
		p.Note(api.Rec{Kind: kind, Txn: 5, Prev: 3}, 5)
		wantFace(t, "5 is over twice", p, left)
		p.Note(api.Rec{Kind: kind, Txn: 9}, 6)
		wantFace(t, "9 never went on", p, left)
		p.Note(api.Rec{Kind: kind, Txn: 6, Key: "x", Old: "y"}, 7)
		wantFace(t, "6 is over", p, face{})
	}
}

// A number that comes again behind its end begins anew.
func TestNumberAgain(t *testing.T) {
	for _, kind := range []int{api.RecCommit, api.RecEnd} {
		p := noted(insert(5, "a", "1"), insert(5, "b", "1"), api.Rec{Kind: kind, Txn: 5}, update(5, "a", "1", "2"))
		wantFace(t, "5 again", p, face{
			table: []api.Active{{Txn: 5, Last: 4}},
			keys:  []keyed{{"a", past.Was{Val: "1", Is: true}}},
			acts:  1,
		})
	}
}

func TestNoteOfNoTransaction(t *testing.T) {
	p := noted(insert(5, "a", "1"))
	want := faceOf(p)
	for kind := -1; kind <= 12; kind++ {
		p.Note(api.Rec{Kind: kind, Key: "b", Old: "o", New: "n"}, 50)
		p.Note(api.Rec{Kind: kind, Key: "a", Old: "o", New: "n"}, 60)
	}
	p.Note(api.Rec{Kind: api.RecCheck, Table: []api.Active{{Txn: 8, Last: 3}}}, 70)
	wantFace(t, "records of no transaction", p, want)
}

// By whatever record of its own that neither commits nor ends it a transaction goes on.
func TestNoteOfOtherKinds(t *testing.T) {
	for _, kind := range []int{math.MinInt, -1, 0, api.RecFull, api.RecShape, api.RecUndo, api.RecCheck, api.RecEpoch, 11, math.MaxInt} {
		p := noted(insert(5, "a", "1"))
		p.Note(api.Rec{Kind: kind, Txn: 5, Key: "b", Old: "o", New: "n"}, 50)
		p.Note(api.Rec{Kind: kind, Txn: 7, Key: "c", Old: "o", New: "n"}, 60)
		wantFace(t, "a record that tells nothing", p, face{
			table: []api.Active{{Txn: 5, Last: 50}, {Txn: 7, Last: 60}},
			keys:  []keyed{{"a", past.Was{}}},
			acts:  1,
		})
	}
}

// Whatever the place is, it is the last one.
func TestNoteAtAnyPlace(t *testing.T) {
	p := past.New()
	for _, at := range []int{30, 7, 0, -1, math.MinInt, math.MaxInt} {
		p.Note(update(5, "a", "o", "n"), at)
		wantFace(t, "a place", p, face{
			table: []api.Active{{Txn: 5, Last: at}},
			keys:  []keyed{{"a", past.Was{Val: "o", Is: true}}},
			acts:  1,
		})
	}
}

// Promise 14.1: Load.

func TestLoadOfNobody(t *testing.T) {
	b := newBench(t)
	b.add(insert(5, "a", "1"))
	for _, l := range []*wal.Log{b.l, nil, {}} {
		for _, table := range [][]api.Active{nil, {}} {
			wantFace(t, "nobody is told", load(t, l, table...), face{})
		}
	}
}

func TestLoadReadsBackByPrev(t *testing.T) {
	b := newBench(t)
	first := b.add(update(5, "a", "o", "n"))
	b.add(insert(6, "x", "1"))
	second := b.add(behind(first, insert(5, "b", "1")))
	third := b.add(behind(second, update(5, "a", "n", "m")))
	last := b.add(behind(third, remove(5, "c", "z")))
	wantFace(t, "Load", load(t, b.l, api.Active{Txn: 5, Last: last}), face{
		table: []api.Active{{Txn: 5, Last: last}},
		keys:  []keyed{{"a", past.Was{Val: "o", Is: true}}, {"b", past.Was{}}, {"c", past.Was{Val: "z", Is: true}}},
		acts:  3,
	})
	wantFace(t, "Load from the second one", load(t, b.l, api.Active{Txn: 5, Last: second}), face{
		table: []api.Active{{Txn: 5, Last: second}},
		keys:  []keyed{{"a", past.Was{Val: "o", Is: true}}, {"b", past.Was{}}},
		acts:  2,
	})
	wantFace(t, "Load from the first one", load(t, b.l, api.Active{Txn: 5, Last: first}), face{
		table: []api.Active{{Txn: 5, Last: first}},
		keys:  []keyed{{"a", past.Was{Val: "o", Is: true}}},
		acts:  1,
	})
}

// A record that does not last yet is read as well.
func TestLoadOfWhatDoesNotLast(t *testing.T) {
	b := newBench(t)
	at := b.add(insert(5, "a", "1"))
	if b.l.Durable() != 1 {
		t.Fatal("it lasts")
	}
	if p := load(t, b.l, api.Active{Txn: 5, Last: at}); p.Acts() != 1 {
		t.Errorf("Load: %d keys, want 1", p.Acts())
	}
}

// The way back is Prev, whatever Next says: what was taken back was turned.
func TestLoadGoesByPrevOfAnUndo(t *testing.T) {
	b := newBench(t)
	first := b.add(update(5, "a", "o", "n"))
	second := b.add(behind(first, insert(5, "b", "1")))
	u := behind(second, undo(5, api.RecDelete, "b", "1", ""))
	u.Next = first
	third := b.add(u)
	u = behind(third, undo(5, api.RecUpdate, "a", "n", "o"))
	last := b.add(u)
	wantFace(t, "Load", load(t, b.l, api.Active{Txn: 5, Last: last}), face{
		table: []api.Active{{Txn: 5, Last: last}},
		keys:  []keyed{{"a", past.Was{Val: "o", Is: true}}, {"b", past.Was{}}},
		acts:  2,
	})
}

func TestLoadOfOneWithoutRecords(t *testing.T) {
	b := newBench(t)
	b.add(insert(5, "a", "1"))
	for _, l := range []*wal.Log{b.l, nil, {}} {
		wantFace(t, "the last record is none", load(t, l, api.Active{Txn: 5}), face{table: []api.Active{{Txn: 5}}})
	}
}

// The number 0 is told as any other: a record of no transaction has it, too.
func TestLoadOfTheNumberNought(t *testing.T) {
	b := newBench(t)
	first := b.add(insert(5, "a", "1"))
	epoch := b.add(api.Rec{Kind: api.RecEpoch, Epoch: 1})
	for _, last := range []int{0, epoch} {
		p := load(t, b.l, api.Active{Last: last})
		want := face{table: []api.Active{{Last: last}}}
		wantFace(t, "nought", p, want)
		p.Note(api.Rec{Kind: api.RecEnd}, 99)
		wantFace(t, "nought is noted", p, want)
	}
	wantDamage(t, "of a transaction", b.l, api.Active{Last: first})
}

// Of which kind a record is makes no damage.
func TestLoadOfAnyKind(t *testing.T) {
	b := newBench(t)
	first := b.add(insert(5, "a", "1"))
	for _, kind := range []int{api.RecCommit, api.RecEnd} {
		at := b.add(api.Rec{Kind: kind, Txn: 5, Prev: first})
		wantFace(t, "a commit or an end is told", load(t, b.l, api.Active{Txn: 5, Last: at}), face{
			table: []api.Active{{Txn: 5, Last: at}},
			keys:  []keyed{{"a", past.Was{}}},
			acts:  1,
		})
	}
}

func TestLoadOfTheSameNumberTwice(t *testing.T) {
	b := newBench(t)
	first := b.add(insert(5, "a", "1"))
	other := b.add(insert(6, "x", "1"))
	last := b.add(behind(first, insert(5, "b", "1")))
	five := face{
		table: []api.Active{{Txn: 5, Last: first}, {Txn: 6, Last: other}},
		keys:  []keyed{{"a", past.Was{}}, {"x", past.Was{}}},
		acts:  2,
	}
	wantFace(t, "the later one holds", load(t, b.l,
		api.Active{Txn: 5, Last: last}, api.Active{Txn: 6, Last: other}, api.Active{Txn: 5, Last: first}), five)
	for _, wrong := range []int{other, b.l.End(), -1, first + 1} {
		wantFace(t, "the earlier one is wrong", load(t, b.l,
			api.Active{Txn: 5, Last: wrong}, api.Active{Txn: 6, Last: other}, api.Active{Txn: 5, Last: first}), five)
		wantDamage(t, "the later one is wrong", b.l,
			api.Active{Txn: 5, Last: first}, api.Active{Txn: 6, Last: other}, api.Active{Txn: 5, Last: wrong})
	}
	wantFace(t, "the later one is none", load(t, b.l,
		api.Active{Txn: 5, Last: last}, api.Active{Txn: 5}), face{table: []api.Active{{Txn: 5}}})
}

func TestLoadOfNoRecord(t *testing.T) {
	b := newBench(t)
	first := b.add(insert(5, "a", "1"))
	b.add(behind(first, insert(5, "b", "1")))
	for at := -3; at < b.l.End()+3; at++ {
		if at == 0 || b.l.Bound(at) && at < b.l.End() {
			continue
		}
		wantDamage(t, "no record is there", b.l, api.Active{Txn: 5, Last: at})
	}
	for _, at := range []int{math.MinInt, math.MaxInt} {
		wantDamage(t, "no record is there", b.l, api.Active{Txn: 5, Last: at})
	}
	for _, l := range []*wal.Log{nil, {}} {
		wantDamage(t, "there is no log", l, api.Active{Txn: 5, Last: first})
	}
}

// Bytes within a record that look like a record are none of the log's.
func TestLoadOfARecordWithinAnother(t *testing.T) {
	b := newBench(t)
	inner := frame(t, insert(5, "b", "1"))
	at := b.add(insert(5, "a", inner))
	within := b.l.End() - len(inner)
	if r, _, err := b.l.Read(within); err != api.OK || r.Txn != 5 || r.Key != "b" {
		t.Fatalf("nothing looks like a record at %d: %v, error %d", within, r, err)
	}
	wantDamage(t, "within a record", b.l, api.Active{Txn: 5, Last: within})
	last := b.add(behind(within, insert(5, "c", "1")))
	wantDamage(t, "Prev within a record", b.l, api.Active{Txn: 5, Last: last})
	if p := load(t, b.l, api.Active{Txn: 5, Last: at}); p.Acts() != 1 {
		t.Errorf("Load: %d keys, want 1", p.Acts())
	}
}

func TestLoadOfAnothersRecord(t *testing.T) {
	b := newBench(t)
	first := b.add(insert(5, "a", "1"))
	last := b.add(behind(first, insert(6, "b", "1")))
	end := b.add(behind(last, insert(6, "c", "1")))
	check := b.add(api.Rec{Kind: api.RecCheck, Table: []api.Active{{Txn: 5, Last: first}}})
	epoch := b.add(api.Rec{Kind: api.RecEpoch, Epoch: 1})
	behindEpoch := b.add(behind(epoch, insert(5, "d", "1")))
	wantDamage(t, "the last one is another's", b.l, api.Active{Txn: 6, Last: first})
	wantDamage(t, "the one ahead is another's", b.l, api.Active{Txn: 6, Last: last})
	wantDamage(t, "the first one is another's", b.l, api.Active{Txn: 6, Last: end})
	wantDamage(t, "a check", b.l, api.Active{Txn: 5, Last: check})
	wantDamage(t, "an epoch", b.l, api.Active{Txn: 5, Last: epoch})
	wantDamage(t, "an epoch ahead", b.l, api.Active{Txn: 5, Last: behindEpoch})
	wantDamage(t, "one of several", b.l,
		api.Active{Txn: 4}, api.Active{Txn: 5, Last: first}, api.Active{Txn: 6, Last: end}, api.Active{Txn: 7})
}

func TestLoadWherePrevIsNotLesser(t *testing.T) {
	b := newBench(t)
	first := b.add(insert(5, "a", "1"))
	itself := b.add(behind(b.l.End(), insert(5, "b", "1")))
	later := b.l.End() + len(frame(t, insert(5, "c", "1")))
	ahead := b.add(behind(later, insert(5, "c", "1")))
	if at := b.add(behind(first, insert(5, "d", "1"))); at != later {
		t.Fatalf("the later one is at %d, not at %d", at, later)
	}
	last := b.add(behind(ahead, insert(5, "e", "1")))
	far := b.add(behind(1<<40, insert(5, "f", "1")))
	wantDamage(t, "Prev is its own place", b.l, api.Active{Txn: 5, Last: itself})
	wantDamage(t, "Prev stands behind it", b.l, api.Active{Txn: 5, Last: ahead})
	wantDamage(t, "Prev of the one ahead stands behind it", b.l, api.Active{Txn: 5, Last: last})
	wantDamage(t, "Prev is no place of the log", b.l, api.Active{Txn: 5, Last: far})
	if p := load(t, b.l, api.Active{Txn: 5, Last: later}); p.Acts() != 2 {
		t.Errorf("Load: %d keys, want 2", p.Acts())
	}
}

// A way back that leads nowhere is found however far back that is.
func TestLoadWhereAnEarlierRecordIsWrong(t *testing.T) {
	b := newBench(t)
	at := b.add(behind(b.l.End()+1, insert(5, "a", "1")))
	for range 50 {
		at = b.add(behind(at, update(5, "a", "1", "2")))
		wantDamage(t, "the first one is wrong", b.l, api.Active{Txn: 5, Last: at})
	}
}

func TestLoadChangesNothing(t *testing.T) {
	b := newBench(t)
	first := b.add(insert(5, "a", "1"))
	b.add(behind(first, insert(6, "b", "1")))
	records, places := b.l.Records()
	table := []api.Active{{Txn: 6, Last: 1}, {Txn: 5, Last: first}, {Txn: 6}}
	told := slices.Clone(table)
	p := load(t, b.l, table...)
	wantDamage(t, "another's", b.l, table[:1]...)
	after, placesAfter := b.l.Records()
	if len(after) != len(records) || !slices.Equal(places, placesAfter) || b.l.Durable() != 1 {
		t.Error("Load: the log is another one")
	}
	if !slices.Equal(table, told) {
		t.Errorf("Load: the table is %v now", table)
	}
	want := faceOf(p)
	for i := range table {
		table[i] = api.Active{Txn: 9, Last: 9}
	}
	b.add(api.Rec{Kind: api.RecCommit, Txn: 5, Prev: first})
	wantFace(t, "a table that was turned behind Load, and a log that went on", p, want)
}

// Promise 14.2.

// several is a past in which three have turned one key, noted in no order.
func several() *past.Past {
	return noted(
		update(7, "k", "seven", "x"),
		insert(3, "k", "x"),
		remove(11, "k", "eleven"),
		insert(7, "z", "x"),
		remove(3, "a", "three"),
		update(11, "b", "", "x"),
	)
}

func TestTableRises(t *testing.T) {
	p := noted(insert(7, "a", "1"), insert(-2, "a", "1"), insert(3, "a", "1"), insert(math.MaxInt, "a", "1"),
		insert(math.MinInt, "a", "1"), insert(20, "a", "1"), insert(3, "b", "1"))
	want := []api.Active{{Txn: math.MinInt, Last: 5}, {Txn: -2, Last: 2}, {Txn: 3, Last: 7}, {Txn: 7, Last: 1},
		{Txn: 20, Last: 6}, {Txn: math.MaxInt, Last: 4}}
	if got := p.Table(); !slices.Equal(got, want) {
		t.Errorf("Table: %v, want %v", got, want)
	}
}

func TestGetIsOfTheLeastNumber(t *testing.T) {
	for range 50 { // whatever the order of a map is
		p := several()
		wantGet(t, p, "k", past.Was{}, true)
		p.Note(api.Rec{Kind: api.RecEnd, Txn: 3}, 9)
		wantGet(t, p, "k", past.Was{Val: "seven", Is: true}, true)
		p.Note(remove(-4, "k", "four"), 10)
		wantGet(t, p, "k", past.Was{Val: "four", Is: true}, true)
		p.Note(api.Rec{Kind: api.RecCommit, Txn: -4}, 11)
		p.Note(api.Rec{Kind: api.RecCommit, Txn: 7}, 12)
		wantGet(t, p, "k", past.Was{Val: "eleven", Is: true}, true)
		p.Note(api.Rec{Kind: api.RecCommit, Txn: 11}, 13)
		wantGet(t, p, "k", past.Was{}, false)
	}
}

func TestGetOfWhatNobodyTurned(t *testing.T) {
	p := several()
	for _, key := range []string{"", "K", "k\x00", "kk", "j", strings.Repeat("k", 40)} {
		wantGet(t, p, key, past.Was{}, false)
	}
}

func TestKeysRiseEachOnce(t *testing.T) {
	p := several()
	p.Note(insert(3, "\xff", "x"), 20)
	p.Note(insert(3, "", "x"), 21)
	p.Note(insert(7, "aa", "x"), 22)
	p.Note(insert(7, "B", "x"), 23)
	want := []string{"", "B", "a", "aa", "b", "k", "z", "\xff"}
	if got := p.Keys(); !slices.Equal(got, want) {
		t.Errorf("Keys: %q, want %q", got, want)
	}
}

// A key counts for each who turned it, and once however often he did.
func TestActs(t *testing.T) {
	p := several()
	for _, c := range []struct {
		r    api.Rec
		want int
	}{
		{update(7, "k", "x", "y"), 6},
		{undo(7, api.RecUpdate, "k", "y", "x"), 6},
		{insert(7, "new", "y"), 7},
		{insert(8, "new", "y"), 8},
		{undo(9, api.RecUpdate, "k", "y", "x"), 8},
		{api.Rec{Kind: api.RecCommit, Txn: 7}, 5},
		{api.Rec{Kind: api.RecEnd, Txn: 3}, 3},
		{api.Rec{Kind: api.RecEnd, Txn: 9}, 3},
		{api.Rec{Kind: api.RecEnd, Txn: 8}, 2},
		{api.Rec{Kind: api.RecCommit, Txn: 11}, 0},
	} {
		p.Note(c.r, 30)
		if got := p.Acts(); got != c.want {
			t.Errorf("Acts behind %+v: %d, want %d", c.r, got, c.want)
		}
	}
}

func TestAnswersAreNewMemory(t *testing.T) {
	p := several()
	want := faceOf(p)
	for i, table := 0, p.Table(); i < len(table); i++ {
		table[i] = api.Active{Txn: 1, Last: 1}
	}
	for i, keys := 0, p.Keys(); i < len(keys); i++ {
		keys[i] = "x"
	}
	l := cells("a", "1", "c", "2", "k", "3", "y", "4")
	view := p.View(l, "", "", 9)
	for i := range view {
		view[i] = api.Cell{Key: "x", Val: "x"}
	}
	_ = append(view[:1], view...)
	if !slices.Equal(l, cells("a", "1", "c", "2", "k", "3", "y", "4")) {
		t.Errorf("View: what was handed in is %v now", l)
	}
	wantFace(t, "answers that were turned", p, want)
}

// Promise 14.3.

func TestView(t *testing.T) {
	// b and y had nothing, d, k and x had something; k is turned by several.
	p := noted(
		insert(5, "b", "n"), update(5, "d", "D", "n"), remove(6, "k", "K"), insert(7, "k", "n"),
		insert(6, "y", "n"), remove(7, "x", ""),
	)
	for _, c := range []struct {
		why    string
		l      []api.Cell
		lo, hi string
		most   int
		want   []api.Cell
	}{
		{"all", cells("a", "1", "b", "n", "c", "2", "d", "n", "z", "3"), "", "", 99, cells("a", "1", "c", "2", "d", "D", "k", "K", "x", "", "z", "3")},
		{"none at hand", nil, "", "", 99, cells("d", "D", "k", "K", "x", "")},
		{"of an empty list", cells(), "", "", 99, cells("d", "D", "k", "K", "x", "")},
		{"all were turned", cells("b", "n", "d", "n", "k", "n", "y", "n"), "", "", 99, cells("d", "D", "k", "K", "x", "")},
		{"none was turned", cells("a", "1", "c", "2"), "a", "c", 99, cells("a", "1", "c", "2")},
		{"a beginning", cells("e", "1"), "e", "", 99, cells("e", "1", "k", "K", "x", "")},
		{"an end", cells("a", "1"), "", "e", 99, cells("a", "1", "d", "D")},
		{"the beginning counts", nil, "d", "e", 99, cells("d", "D")},
		{"the end counts", nil, "c", "d", 99, cells("d", "D")},
		{"one key", nil, "k", "k", 99, cells("k", "K")},
		{"a key behind the beginning", nil, "d\x00", "k", 99, cells("k", "K")},
		{"a key ahead of the end", nil, "d", "k\x00", 99, cells("d", "D", "k", "K")},
		{"an end just ahead", nil, "", "j\xff", 99, cells("d", "D")},
		{"one key that had nothing", cells("b", "n"), "b", "b", 99, nil},
		{"an end ahead of the beginning", cells("a", "1", "d", "n", "l", "2"), "x", "a", 99, cells("a", "1", "l", "2")},
		{"a long end", nil, "l", strings.Repeat("x", 40), 99, cells("x", "")},
		{"no key in the range", nil, "l", "m", 99, nil},
		{"cells out of the range stay", cells("a", "1", "d", "n", "z", "2"), "k", "l", 99, cells("a", "1", "k", "K", "z", "2")},
		{"turned keys out of the range go", cells("b", "n", "d", "n"), "e", "f", 99, nil},

		{"just all", cells("a", "1", "z", "3"), "", "", 5, cells("a", "1", "d", "D", "k", "K", "x", "", "z", "3")},
		{"one less", cells("a", "1", "z", "3"), "", "", 4, cells("a", "1", "d", "D", "k", "K", "x", "")},
		{"two", cells("a", "1", "b", "n", "c", "2"), "", "", 2, cells("a", "1", "c", "2")},
		{"two, one of which was turned", cells("b", "n", "c", "2", "e", "3"), "", "", 2, cells("c", "2", "d", "D")},
		{"one", cells("a", "1"), "", "", 1, cells("a", "1")},
		{"one that was turned", cells("z", "1"), "", "", 1, cells("d", "D")},
		{"none", cells("a", "1"), "", "", 0, nil},
		{"below none", cells("a", "1"), "", "", -1, nil},
		{"far below none", cells("a", "1"), "", "", math.MinInt, nil},
		{"as many as can be", cells("a", "1"), "", "", math.MaxInt, cells("a", "1", "d", "D", "k", "K", "x", "")},
	} {
		if got := p.View(c.l, c.lo, c.hi, c.most); !slices.Equal(got, c.want) {
			t.Errorf("View, %s: %q, want %q", c.why, got, c.want)
		}
	}
}

// Of several who turned a key that of the least number holds, as in Get.
func TestViewIsOfTheLeastNumber(t *testing.T) {
	for range 50 { // whatever the order of a map is
		p := several()
		l := cells("a", "x", "b", "x", "k", "x", "z", "x")
		wantView(t, p, l, cells("a", "three", "b", ""))
		p.Note(api.Rec{Kind: api.RecEnd, Txn: 3}, 9)
		wantView(t, p, l, cells("a", "x", "b", "", "k", "seven"))
		p.Note(api.Rec{Kind: api.RecEnd, Txn: 7}, 10)
		wantView(t, p, l, cells("a", "x", "b", "", "k", "eleven", "z", "x"))
		p.Note(api.Rec{Kind: api.RecEnd, Txn: 11}, 11)
		wantView(t, p, l, l)
	}
}

// A list that does not rise is no reason to panic.
func TestViewOfWhatDoesNotRise(t *testing.T) {
	for _, p := range []*past.Past{several(), past.New(), nil, {}} {
		l := cells("z", "1", "k", "2", "c", "3", "c", "4", "", "5")
		for most := -1; most < 9; most++ {
			if got := p.View(l, "", "", most); len(got) > max(most, 0) {
				t.Errorf("View: %d cells, want at most %d", len(got), most)
			}
		}
		if !slices.Equal(l, cells("z", "1", "k", "2", "c", "3", "c", "4", "", "5")) {
			t.Errorf("View: what was handed in is %v now", l)
		}
	}
}

// Promise 14.4.

func TestOfNoPast(t *testing.T) {
	for _, p := range []*past.Past{nil, {}, new(past.Past)} {
		for _, kind := range []int{api.RecInsert, api.RecDelete, api.RecUpdate, api.RecUndo, api.RecCommit, api.RecEnd, 0} {
			p.Note(api.Rec{Kind: kind, Txn: 5, Key: "a", Old: "o", New: "n"}, 1)
		}
		wantFace(t, "no past", p, face{})
		wantGet(t, p, "a", past.Was{}, false)
		l := cells("z", "1", "a", "2", "c", "3")
		for _, c := range []struct {
			most, want int
		}{{math.MinInt, 0}, {-1, 0}, {0, 0}, {1, 1}, {2, 2}, {3, 3}, {4, 3}, {math.MaxInt, 3}} {
			if got := p.View(l, "b", "b", c.most); !slices.Equal(got, l[:c.want]) {
				t.Errorf("View of %d: %q, want %q", c.most, got, l[:c.want])
			}
		}
		if got := p.View(nil, "", "", 3); len(got) > 0 {
			t.Errorf("View of nothing: %q", got)
		}
		p.View(l, "", "", 3)[0].Key = "x"
		if l[0].Key != "z" {
			t.Error("View: what was handed in was handed out")
		}
	}
}

// The document's example.

func TestExample(t *testing.T) {
	p := noted(insert(5, "a", "1"))
	wantGet(t, p, "a", past.Was{}, true)
	p.Note(api.Rec{Kind: api.RecCommit, Txn: 5, Prev: 1}, 27)
	wantGet(t, p, "a", past.Was{}, false)
}

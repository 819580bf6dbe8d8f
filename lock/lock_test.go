package lock_test

import (
	"math"
	"math/rand"
	"slices"
	"strconv"
	"strings"
	"testing"

	"gharry/api"
	"gharry/lock"
)

// shared, owned and from keep the tests' tables short.
func shared(txn int, lo, hi string) lock.Hold {
	return lock.Hold{Txn: txn, Mode: lock.Share, Lo: lo, Hi: hi}
}

func owned(txn int, lo, hi string) lock.Hold {
	return lock.Hold{Txn: txn, Mode: lock.Own, Lo: lo, Hi: hi}
}

func from(txn, mode int, lo string) lock.Hold {
	return lock.Hold{Txn: txn, Mode: mode, Lo: lo, Open: true}
}

// with is a table that holds these, each of which is one more.
func with(t *testing.T, holds ...lock.Hold) *lock.Table {
	t.Helper()
	table := lock.New()
	if table == nil {
		t.Fatal("New: nil")
	}
	for _, h := range holds {
		wantErr(t, "Ask", table.Ask(h), api.OK)
	}
	wantHeld(t, table, holds...)
	return table
}

func wantErr(t *testing.T, what string, got, want api.Errno) {
	t.Helper()
	if got != want {
		t.Errorf("%s: error %d, want %d", what, got, want)
	}
}

func wantHeld(t *testing.T, table *lock.Table, want ...lock.Hold) {
	t.Helper()
	if got := table.All(); !slices.Equal(got, want) {
		t.Errorf("All: %v, want %v", got, want)
	}
}

func wantCount(t *testing.T, table *lock.Table, want int) {
	t.Helper()
	if got := table.Count(); got != want {
		t.Errorf("Count: %d, want %d", got, want)
	}
}

func wantHas(t *testing.T, table *lock.Table, h lock.Hold, want bool) {
	t.Helper()
	if got := table.Has(h); got != want {
		t.Errorf("Has(%v): %v, want %v", h, got, want)
	}
}

func wantDropped(t *testing.T, table *lock.Table, txn, want int) {
	t.Helper()
	if got := table.Drop(txn); got != want {
		t.Errorf("Drop(%d): %d, want %d", txn, got, want)
	}
}

func wantWho(t *testing.T, table *lock.Table, h lock.Hold, want ...int) {
	t.Helper()
	if got := table.Who(h); !slices.Equal(got, want) {
		t.Errorf("Who(%v): %v, want %v", h, got, want)
	}
}

// Promise 12.1.

func TestModes(t *testing.T) {
	if lock.Share != 1 || lock.Own != 2 {
		t.Errorf("Share %d, Own %d; want 1, 2", lock.Share, lock.Own)
	}
}

func TestRight(t *testing.T) {
	long, tooLong := strings.Repeat("k", 16), strings.Repeat("k", 17)
	lesser := strings.Repeat("a", 17)
	for _, c := range []struct {
		why  string
		hold lock.Hold
		want bool
	}{
		{"one key", shared(1, "a", "a"), true},
		{"some keys", owned(1, "a", "c"), true},
		{"a transaction of a great number", owned(math.MaxInt, "a", "c"), true},
		{"no end", from(1, lock.Share, "a"), true},
		{"all keys", from(1, lock.Own, ""), true},
		{"from the empty text on", shared(1, "", "a"), true},
		{"the empty text", shared(1, "", ""), true},
		{"ends of 16 bytes", shared(1, long, long), true},
		{"a beginning of 16 bytes, no end", from(1, lock.Share, long), true},
		{"bytes above those of signs", shared(1, "\x7f", "\xff"), true},
		{"a beginning that the end goes on from", shared(1, "a", "a\x00"), true},

		{"nothing is said", lock.Hold{}, false},
		{"transaction 0", shared(0, "a", "a"), false},
		{"transaction -1", shared(-1, "a", "a"), false},
		{"the least transaction", owned(math.MinInt, "a", "a"), false},
		{"mode 0", lock.Hold{Txn: 1, Lo: "a", Hi: "a"}, false},
		{"mode 3", lock.Hold{Txn: 1, Mode: 3, Lo: "a", Hi: "a"}, false},
		{"mode -1", lock.Hold{Txn: 1, Mode: -1, Lo: "a", Hi: "a"}, false},
		{"a great mode, no end", lock.Hold{Txn: 1, Mode: math.MaxInt, Open: true}, false},
		{"a beginning of 17 bytes", shared(1, lesser, "b"), false},
		{"an end of 17 bytes", shared(1, "a", tooLong), false},
		{"both of 17 bytes", shared(1, tooLong, tooLong), false},
		{"a beginning of 17 bytes, no end", from(1, lock.Share, tooLong), false},
		{"an end ahead of the beginning", shared(1, "b", "a"), false},
		{"an end that the beginning goes on from", shared(1, "a\x00", "a"), false},
		{"an empty end ahead of the beginning", shared(1, "a", ""), false},
		{"bytes of signs behind those above them", shared(1, "\xff", "\x7f"), false},
		{"open, with an end", lock.Hold{Txn: 1, Mode: lock.Share, Lo: "a", Hi: "b", Open: true}, false},
		{"open, with an end of its beginning", lock.Hold{Txn: 1, Mode: lock.Own, Lo: "a", Hi: "a", Open: true}, false},
	} {
		if got := lock.Right(c.hold); got != c.want {
			t.Errorf("Right, %s: %v, want %v", c.why, got, c.want)
		}
	}
}

func TestMeetAtEnds(t *testing.T) {
	for _, c := range []struct {
		a, b lock.Hold
		want bool
	}{
		{shared(1, "b", "b"), shared(2, "b", "b"), true},
		{shared(1, "b", "b"), shared(2, "a", "c"), true},
		{shared(1, "a", "b"), shared(2, "b", "c"), true},
		{shared(1, "a", "b"), shared(2, "b\x00", "c"), false},
		{shared(1, "a", "b\x00"), shared(2, "b\x00", "c"), true},
		{shared(1, "a", "b"), shared(2, "c", "d"), false},
		{shared(1, "a", "b"), shared(2, "ba", "bb"), false},
		{shared(1, "a", "c"), shared(2, "ba", "bb"), true},
		{shared(1, "", ""), shared(2, "", "a"), true},
		{shared(1, "", ""), shared(2, "\x00", "a"), false},
		{shared(1, "\x7f", "\x80"), shared(2, "\x80", "\xff"), true},
		{shared(1, "a", "z"), shared(2, "\xff", "\xff"), false},
		{from(1, 1, "b"), shared(2, "a", "a"), false},
		{from(1, 1, "b"), shared(2, "a", "b"), true},
		{from(1, 1, "b"), shared(2, "x", "z"), true},
		{from(1, 1, "b"), shared(2, strings.Repeat("\xff", 16), strings.Repeat("\xff", 16)), true},
		{from(1, 1, "b"), from(2, 1, "z"), true},
		{from(1, 1, ""), shared(2, "", ""), true},
	} {
		if got := lock.Meet(c.a, c.b); got != c.want {
			t.Errorf("Meet(%v, %v): %v, want %v", c.a, c.b, got, c.want)
		}
		if got := lock.Meet(c.b, c.a); got != c.want {
			t.Errorf("Meet(%v, %v): %v, want %v", c.b, c.a, got, c.want)
		}
	}
}

// Whose they are, and of which mode, is nothing to Meet.
func TestMeetLooksAtEndsAlone(t *testing.T) {
	for _, txn := range []int{math.MinInt, -1, 0, 1, 2, math.MaxInt} {
		for _, mode := range []int{-1, 0, 1, 2, 3} {
			a := lock.Hold{Txn: txn, Mode: mode, Lo: "a", Hi: "c"}
			if !lock.Meet(a, shared(1, "c", "d")) || !lock.Meet(a, from(1, lock.Own, "b")) {
				t.Errorf("Meet of %v: false", a)
			}
			if lock.Meet(a, shared(2, "d", "d")) || lock.Meet(a, from(2, lock.Own, "d")) {
				t.Errorf("Meet of %v: true", a)
			}
		}
	}
}

// What may not be has ends all the same: by them it is told whether two meet.
func TestMeetOfWhatMayNotBe(t *testing.T) {
	turned := shared(1, "d", "b")
	for _, c := range []struct {
		b    lock.Hold
		want bool
	}{
		{shared(2, "a", "d"), true},
		{shared(2, "b", "d"), true},
		{shared(2, "c", "c"), false},
		{shared(2, "b", "c"), false},
		{shared(2, "c", "d"), false},
		{from(2, 1, "b"), true},
		{from(2, 1, "c"), false},
		{turned, false},
	} {
		if lock.Meet(turned, c.b) != c.want || lock.Meet(c.b, turned) != c.want {
			t.Errorf("Meet of d to b and %v: not %v", c.b, c.want)
		}
	}
	open := lock.Hold{Txn: 1, Mode: 1, Lo: "b", Hi: "c", Open: true}
	if !lock.Meet(open, shared(2, "x", "y")) || !lock.Meet(shared(2, "x", "y"), open) || lock.Meet(open, shared(2, "a", "a")) {
		t.Error("Meet of an open one with a Hi: not as one without an end")
	}
	long := strings.Repeat("k", 40)
	if !lock.Meet(shared(1, "a", long), shared(2, long, "z")) || lock.Meet(shared(1, "a", long), shared(2, long+"k", "z")) {
		t.Error("Meet of ends of 40 bytes: not as their bytes say")
	}
}

func TestBar(t *testing.T) {
	for _, c := range []struct {
		a, b lock.Hold
		want bool
	}{
		{shared(1, "a", "c"), shared(2, "b", "d"), false},
		{owned(1, "a", "c"), shared(2, "b", "d"), true},
		{shared(1, "a", "c"), owned(2, "b", "d"), true},
		{owned(1, "a", "c"), owned(2, "b", "d"), true},
		{owned(1, "a", "c"), owned(1, "b", "d"), false},
		{owned(1, "a", "c"), shared(1, "a", "c"), false},
		{owned(1, "a", "b"), owned(2, "c", "d"), false},
		{owned(1, "a", "b"), owned(2, "b", "d"), true},
		{from(1, lock.Own, "b"), shared(2, "z", "z"), true},
		{from(1, lock.Own, "b"), owned(2, "a", "a"), false},
		{from(1, lock.Share, "b"), from(2, lock.Share, "a"), false},
		{from(1, lock.Share, "b"), from(2, lock.Own, "z"), true},
		{lock.Hold{Txn: 1, Mode: 3, Lo: "a", Hi: "c"}, shared(2, "a", "c"), false},
		{lock.Hold{Txn: 1, Mode: 3, Lo: "a", Hi: "c"}, lock.Hold{Txn: 2, Lo: "a", Hi: "c"}, false},
		{lock.Hold{Txn: 1, Mode: 3, Lo: "a", Hi: "c"}, owned(2, "a", "c"), true},
		{owned(0, "a", "c"), shared(-1, "a", "c"), true},
		{owned(0, "a", "c"), shared(0, "a", "c"), false},
	} {
		if got := lock.Bar(c.a, c.b); got != c.want {
			t.Errorf("Bar(%v, %v): %v, want %v", c.a, c.b, got, c.want)
		}
		if got := lock.Bar(c.b, c.a); got != c.want {
			t.Errorf("Bar(%v, %v): %v, want %v", c.b, c.a, got, c.want)
		}
	}
}

// ends are texts near one another; beyond, the last of texts, lies behind all of
// them, so that a hold without an end has a text that none with an end has.
func ends() []string { return []string{"", "\x00", "a", "a\x00", "aa", "b", "ba", "\xff"} }

func texts() []string { return append(ends(), "\xff\xff") }

func liesIn(s string, h lock.Hold) bool { return s >= h.Lo && (h.Open || s <= h.Hi) }

// plainRight is the document's sentence, word by word.
func plainRight(h lock.Hold) bool {
	is := h.Txn > 0
	is = is && (h.Mode == 1 || h.Mode == 2)
	is = is && len(h.Lo) <= 16 && len(h.Hi) <= 16
	if h.Open {
		return is && len(h.Hi) == 0
	}
	return is && strings.Compare(h.Hi, h.Lo) >= 0
}

// plainMeet looks for a text that lies in both.
func plainMeet(a, b lock.Hold) bool {
	return slices.ContainsFunc(texts(), func(s string) bool { return liesIn(s, a) && liesIn(s, b) })
}

// plainWithin looks for a text of the inner one that the outer one has not.
func plainWithin(inner, outer lock.Hold) bool {
	return !slices.ContainsFunc(texts(), func(s string) bool { return liesIn(s, inner) && !liesIn(s, outer) })
}

func plainBar(a, b lock.Hold) bool {
	if a.Txn == b.Txn || !plainMeet(a, b) {
		return false
	}
	return a.Mode == 2 || b.Mode == 2
}

// rightHolds are all holds of two transactions that may be, with all ends.
func rightHolds() []lock.Hold {
	var all []lock.Hold
	for txn := 1; txn <= 2; txn++ {
		for mode := 1; mode <= 2; mode++ {
			for _, lo := range ends() {
				all = append(all, from(txn, mode, lo))
				for _, hi := range ends() {
					if lo <= hi {
						all = append(all, lock.Hold{Txn: txn, Mode: mode, Lo: lo, Hi: hi})
					}
				}
			}
		}
	}
	return all
}

func TestAllPairs(t *testing.T) {
	for _, a := range rightHolds() {
		if !lock.Right(a) {
			t.Fatalf("Right(%v): false", a)
		}
		for _, b := range rightHolds() {
			if got, want := lock.Meet(a, b), plainMeet(a, b); got != want {
				t.Fatalf("Meet(%v, %v): %v, want %v", a, b, got, want)
			}
			if got, want := lock.Bar(a, b), plainBar(a, b); got != want {
				t.Fatalf("Bar(%v, %v): %v, want %v", a, b, got, want)
			}
		}
	}
}

// Promise 12.2.

func TestExample(t *testing.T) {
	table := lock.New()
	wantErr(t, "1 owns b", table.Key(1, lock.Own, "b"), api.OK)
	wantErr(t, "2 shares a to c", table.Range(2, lock.Share, "a", "c"), api.ErrLocked)
	wantDropped(t, table, 1, 1)
	wantErr(t, "2 shares a to c behind Drop(1)", table.Range(2, lock.Share, "a", "c"), api.OK)
	wantHeld(t, table, shared(2, "a", "c"))
	wantCount(t, table, 2)
}

func TestNewIsEmpty(t *testing.T) {
	table := with(t)
	wantCount(t, table, 0)
	wantHas(t, table, shared(1, "a", "a"), false)
	wantHas(t, table, lock.Hold{}, false)
	wantWho(t, table, from(1, lock.Own, ""))
	wantDropped(t, table, 1, 0)
	wantDropped(t, table, 0, 0)
}

func TestTablesAreApart(t *testing.T) {
	one, other := with(t, owned(1, "a", "z")), with(t)
	wantErr(t, "Ask of another table", other.Ask(owned(2, "a", "z")), api.OK)
	wantErr(t, "Ask of the same table", one.Ask(owned(2, "a", "z")), api.ErrLocked)
	wantDropped(t, other, 1, 0)
	wantHeld(t, one, owned(1, "a", "z"))
	wantHeld(t, other, owned(2, "a", "z"))
}

func TestAskRefusesWhatMayNotBe(t *testing.T) {
	table := with(t, owned(1, "a", "z"), shared(2, "\x00", "\x01"))
	tooLong := strings.Repeat("k", 17)
	for _, h := range []lock.Hold{
		{},
		{Mode: lock.Share, Lo: "a", Hi: "a"},
		shared(-1, "a", "a"),
		{Txn: 1, Lo: "a", Hi: "a"},
		{Txn: 1, Mode: 3, Lo: "a", Hi: "a"},
		{Txn: 2, Mode: -1, Lo: "a", Hi: "a"},
		shared(1, "b", "a"),
		owned(2, "b", "a"),
		shared(1, "b", ""),
		shared(1, "b", tooLong),
		shared(2, tooLong, tooLong),
		from(2, lock.Own, tooLong),
		{Txn: 1, Mode: lock.Share, Lo: "b", Hi: "c", Open: true},
	} {
		wantErr(t, "Ask", table.Ask(h), api.ErrArg)
	}
	wantHeld(t, table, owned(1, "a", "z"), shared(2, "\x00", "\x01"))
	wantCount(t, table, 2)
}

func TestAskRefusesWhatIsBarred(t *testing.T) {
	held := []lock.Hold{owned(1, "b", "d"), shared(2, "m", "p"), shared(3, "o", "q")}
	table := with(t, held...)
	for _, h := range []lock.Hold{
		shared(2, "b", "b"), shared(2, "d", "d"), shared(2, "a", "b"), shared(2, "d", "m"), shared(2, "c", "c"),
		owned(2, "a", "z"), from(2, lock.Share, "d"), from(2, lock.Share, ""), from(4, lock.Own, "q"),
		owned(1, "m", "m"), owned(2, "o", "o"), owned(3, "p", "p"), owned(2, "q", "q"), owned(3, "m", "m"),
	} {
		wantErr(t, "Ask", table.Ask(h), api.ErrLocked)
		wantHas(t, table, h, false)
	}
	wantHeld(t, table, held...)
	wantCount(t, table, 3)

	for _, h := range []lock.Hold{
		shared(2, "a", "a\xff"), shared(2, "d\x00", "f"), shared(1, "m", "q"), from(1, lock.Own, "q\x00"),
	} {
		wantErr(t, "Ask", table.Ask(h), api.OK)
		wantHas(t, table, h, true)
	}
	wantCount(t, table, 7)
}

func TestTwoShareAndNoneOwns(t *testing.T) {
	table := with(t, shared(1, "a", "a"), shared(2, "a", "a"))
	wantErr(t, "1 owns", table.Key(1, lock.Own, "a"), api.ErrLocked)
	wantErr(t, "2 owns", table.Key(2, lock.Own, "a"), api.ErrLocked)
	wantDropped(t, table, 2, 1)
	wantErr(t, "1 owns, alone", table.Key(1, lock.Own, "a"), api.OK)
	wantErr(t, "2 shares", table.Key(2, lock.Share, "a"), api.ErrLocked)
	wantHeld(t, table, shared(1, "a", "a"), owned(1, "a", "a"))
	wantCount(t, table, 3)
}

// What is held already is not held once more, and does not count.
func TestAskOfWhatIsHeld(t *testing.T) {
	table := with(t, owned(1, "b", "d"), from(2, lock.Share, "x"))
	for _, h := range []lock.Hold{
		owned(1, "b", "d"), shared(1, "b", "d"), owned(1, "b", "b"), shared(1, "d", "d"), owned(1, "c", "ca"),
		from(2, lock.Share, "x"), from(2, lock.Share, "y"), shared(2, "x", "x"), shared(2, "y", "\xff"),
	} {
		wantHas(t, table, h, true)
		wantErr(t, "Ask", table.Ask(h), api.OK)
	}
	wantHeld(t, table, owned(1, "b", "d"), from(2, lock.Share, "x"))
	wantCount(t, table, 2)
}

// What is held in part, or in a lesser mode, is held beside.
func TestAskOfMoreThanIsHeld(t *testing.T) {
	held := []lock.Hold{
		shared(1, "b", "d"), owned(1, "b", "d"), shared(1, "a", "d"), shared(1, "b", "e"), owned(1, "d", "e"),
		from(1, lock.Share, "b"), from(1, lock.Own, "z"), from(1, lock.Own, ""),
	}
	table := lock.New()
	for _, h := range held {
		wantHas(t, table, h, false)
		wantErr(t, "Ask", table.Ask(h), api.OK)
		wantHas(t, table, h, true)
	}
	wantHeld(t, table, held...)
	wantCount(t, table, len(held))
}

func TestHas(t *testing.T) {
	table := with(t, shared(1, "b", "d"), owned(1, "f", "h"), shared(2, "b", "d"), from(2, lock.Share, "m"))
	for _, c := range []struct {
		hold lock.Hold
		want bool
	}{
		{shared(1, "b", "d"), true},
		{shared(1, "a\xff", "d"), false},
		{shared(1, "b", "d\x00"), false},
		{from(1, lock.Share, "b"), false},
		{from(1, lock.Share, "d"), false},
		{owned(1, "b", "d"), false},
		{owned(1, "c", "c"), false},
		{shared(1, "f", "h"), true},
		{owned(1, "g", "g"), true},
		{shared(1, "e", "e"), false},
		{shared(1, "d", "f"), false},
		{shared(2, "c", "c"), true},
		{shared(2, "f", "f"), false},
		{shared(3, "c", "c"), false},
		{shared(0, "c", "c"), false},
		{from(2, lock.Share, "m"), true},
		{from(2, lock.Share, "l"), false},
		{from(2, lock.Own, "m"), false},
		{from(1, lock.Share, "m"), false},
		{shared(2, "n", strings.Repeat("\xff", 16)), true},
	} {
		wantHas(t, table, c.hold, c.want)
	}
	wantCount(t, table, 4)
}

// One alone must have all of it: two that lie side by side, or in turn over one
// another, are not one.
func TestHasAsksOneAlone(t *testing.T) {
	table := with(t, shared(1, "a", "c"), shared(1, "b", "d"))
	wantHas(t, table, shared(1, "a", "d"), false)
	wantErr(t, "Ask", table.Ask(shared(1, "a", "d")), api.OK)
	wantHeld(t, table, shared(1, "a", "c"), shared(1, "b", "d"), shared(1, "a", "d"))
	wantCount(t, table, 3)

	apart := with(t, owned(1, "b", "b"), shared(1, "a", "c"))
	wantHas(t, apart, owned(1, "a", "c"), false)
	wantHas(t, apart, owned(1, "b", "c"), false)
	wantHas(t, apart, owned(1, "b", "b"), true)
}

// Has goes by its words for what may not be, too: whose it is, the mode, the ends.
func TestHasOfWhatMayNotBe(t *testing.T) {
	table := with(t, shared(1, "b", "d"), from(2, lock.Own, "m"))
	for _, c := range []struct {
		hold lock.Hold
		want bool
	}{
		{lock.Hold{}, false},
		{lock.Hold{Txn: 1, Mode: 0, Lo: "c", Hi: "c"}, true},
		{lock.Hold{Txn: 1, Mode: -1, Lo: "c", Hi: "e"}, false},
		{lock.Hold{Txn: 1, Mode: 3, Lo: "c", Hi: "c"}, false},
		{lock.Hold{Txn: 2, Mode: 3, Lo: "n", Hi: "n"}, false},
		{shared(1, "c", "b"), true},
		{shared(1, "c", ""), true},
		{shared(1, "a", ""), false},
		{lock.Hold{Txn: 1, Mode: lock.Share, Lo: "c", Hi: "c", Open: true}, false},
		{lock.Hold{Txn: 2, Mode: lock.Share, Lo: "n", Hi: "n", Open: true}, true},
		{owned(2, "n", strings.Repeat("z", 40)), true},
		{shared(1, "c", strings.Repeat("c", 40)), true},
	} {
		wantHas(t, table, c.hold, c.want)
	}
}

func TestKey(t *testing.T) {
	table := lock.New()
	long := strings.Repeat("k", 16)
	wantErr(t, "Key of a", table.Key(1, lock.Share, "a"), api.OK)
	wantErr(t, "Key of 16 bytes", table.Key(2, lock.Own, long), api.OK)
	wantErr(t, "Key of the empty text", table.Key(3, lock.Own, ""), api.OK)
	held := []lock.Hold{shared(1, "a", "a"), owned(2, long, long), owned(3, "", "")}
	wantHeld(t, table, held...)

	wantErr(t, "Key of 17 bytes", table.Key(1, lock.Share, long+"k"), api.ErrArg)
	wantErr(t, "Key of transaction 0", table.Key(0, lock.Share, "a"), api.ErrArg)
	wantErr(t, "Key of mode 0", table.Key(1, 0, "a"), api.ErrArg)
	wantErr(t, "Key of mode 3", table.Key(1, 3, "a"), api.ErrArg)
	wantErr(t, "Key that is owned", table.Key(1, lock.Share, long), api.ErrLocked)
	wantErr(t, "Key that is shared", table.Key(2, lock.Own, "a"), api.ErrLocked)
	wantErr(t, "Key of the empty text, that is owned", table.Key(1, lock.Share, ""), api.ErrLocked)
	wantErr(t, "Key that is held", table.Key(2, lock.Share, long), api.OK)
	wantErr(t, "Key beside", table.Key(2, lock.Own, "a\x00"), api.OK)
	wantHeld(t, table, append(held, owned(2, "a\x00", "a\x00"))...)
	wantCount(t, table, 4)
}

func TestRange(t *testing.T) {
	table := lock.New()
	long := strings.Repeat("k", 16)
	wantErr(t, "Range of a to c", table.Range(1, lock.Share, "a", "c"), api.OK)
	wantErr(t, "Range of a key", table.Range(1, lock.Own, "b", "b"), api.OK)
	wantErr(t, "Range from m on", table.Range(2, lock.Own, "m", ""), api.OK)
	wantErr(t, "Range to 16 bytes", table.Range(3, lock.Share, "", long), api.ErrLocked)
	wantErr(t, "Range to a\xff", table.Range(3, lock.Share, "", "a\xff"), api.OK)
	held := []lock.Hold{shared(1, "a", "c"), owned(1, "b", "b"), from(2, lock.Own, "m"), shared(3, "", "a\xff")}
	wantHeld(t, table, held...)

	wantErr(t, "Range to 17 bytes", table.Range(1, lock.Share, "a", long+"k"), api.ErrArg)
	wantErr(t, "Range from 17 bytes on", table.Range(1, lock.Share, long+"k", ""), api.ErrArg)
	wantErr(t, "Range of an end ahead", table.Range(1, lock.Share, "b", "a"), api.ErrArg)
	wantErr(t, "Range of transaction 0", table.Range(0, lock.Share, "a", "b"), api.ErrArg)
	wantErr(t, "Range of mode 3", table.Range(1, 3, "a", ""), api.ErrArg)
	wantErr(t, "Range of all", table.Range(4, lock.Share, "", ""), api.ErrLocked)
	wantErr(t, "Range behind m", table.Range(4, lock.Share, "zz", ""), api.ErrLocked)
	wantErr(t, "Range that is held", table.Range(2, lock.Share, "m", "n"), api.OK)
	wantHeld(t, table, held...)
	wantCount(t, table, 4)

	all := lock.New()
	wantErr(t, "Range of all, alone", all.Range(1, lock.Own, "", ""), api.OK)
	wantHeld(t, all, from(1, lock.Own, ""))
}

func TestDrop(t *testing.T) {
	table := with(t, shared(1, "a", "c"), shared(2, "b", "b"), owned(1, "d", "d"), shared(3, "c", "c"), from(1, lock.Own, "x"))
	wantDropped(t, table, 4, 0)
	wantDropped(t, table, 0, 0)
	wantDropped(t, table, -1, 0)
	wantDropped(t, table, 1, 3)
	wantHeld(t, table, shared(2, "b", "b"), shared(3, "c", "c"))
	wantDropped(t, table, 1, 0)
	wantHas(t, table, shared(1, "a", "a"), false)
	wantCount(t, table, 5)

	wantErr(t, "1 shares anew", table.Ask(shared(1, "a", "c")), api.OK)
	wantErr(t, "4 owns what 1 owned", table.Ask(from(4, lock.Own, "d")), api.OK)
	wantHeld(t, table, shared(2, "b", "b"), shared(3, "c", "c"), shared(1, "a", "c"), from(4, lock.Own, "d"))
	wantCount(t, table, 7)
	for _, txn := range []int{3, 2, 4, 1} {
		wantDropped(t, table, txn, 1)
	}
	wantHeld(t, table)
	wantCount(t, table, 7)
}

func TestWho(t *testing.T) {
	table := with(t,
		shared(7, "a", "c"), shared(2, "b", "d"), shared(7, "c", "e"), owned(5, "m", "m"), shared(3, "d", "d"), owned(2, "p", "q"))
	wantWho(t, table, owned(9, "a", "z"), 7, 2, 5, 3)
	wantWho(t, table, from(9, lock.Own, ""), 7, 2, 5, 3)
	wantWho(t, table, from(9, lock.Share, ""), 5, 2)
	wantWho(t, table, owned(7, "a", "z"), 2, 5, 3)
	wantWho(t, table, owned(2, "a", "z"), 7, 5, 3)
	wantWho(t, table, owned(9, "d", "d"), 2, 7, 3)
	wantWho(t, table, shared(9, "a", "e"))
	wantWho(t, table, owned(9, "f", "l"))
	wantWho(t, table, shared(5, "m", "m"))
	wantWho(t, table, shared(9, "m", "m"), 5)
	wantWho(t, table, owned(9, "a", "a"), 7)
	wantCount(t, table, 6)
	wantDropped(t, table, 7, 2)
	wantWho(t, table, owned(9, "a", "z"), 2, 5, 3)
}

// A transaction is told where the first of its holds came that bars, not where
// its first one came.
func TestWhoAsTheyCame(t *testing.T) {
	table := with(t, shared(1, "x", "x"), shared(2, "b", "b"), shared(1, "b", "b"), shared(2, "x", "x"))
	wantWho(t, table, owned(9, "b", "b"), 2, 1)
	wantWho(t, table, owned(9, "x", "x"), 1, 2)
	wantWho(t, table, owned(9, "b", "x"), 1, 2)
}

// Who goes by Bar for what may not be, too.
func TestWhoOfWhatMayNotBe(t *testing.T) {
	table := with(t, owned(1, "b", "d"), shared(2, "f", "h"))
	wantWho(t, table, lock.Hold{})
	wantWho(t, table, lock.Hold{Lo: "c", Hi: "g"}, 1)
	wantWho(t, table, lock.Hold{Mode: lock.Own, Lo: "c", Hi: "g"}, 1, 2)
	wantWho(t, table, lock.Hold{Txn: -1, Mode: 3, Open: true}, 1)
	wantWho(t, table, lock.Hold{Txn: 1, Mode: 3, Open: true})
	wantWho(t, table, lock.Hold{Txn: 9, Mode: lock.Own, Lo: "e", Hi: "a", Open: true}, 2)
}

// R3: what is answered is the caller's own.
func TestAnswersAreTheCallersOwn(t *testing.T) {
	table := with(t, shared(1, "a", "a"), shared(2, "a", "a"), shared(3, "a", "a"))
	list := table.All()
	list[0], list[1] = owned(9, "a", "z"), owned(8, "a", "z")
	_ = append(list[:1], owned(7, "a", "z"))
	wantHeld(t, table, shared(1, "a", "a"), shared(2, "a", "a"), shared(3, "a", "a"))
	who := table.Who(owned(4, "a", "a"))
	who[0] = 77
	wantWho(t, table, owned(4, "a", "a"), 1, 2, 3)

	all := table.All()
	wantDropped(t, table, 1, 1)
	wantErr(t, "Ask", table.Ask(shared(4, "a", "a")), api.OK)
	if want := []lock.Hold{shared(1, "a", "a"), shared(2, "a", "a"), shared(3, "a", "a")}; !slices.Equal(all, want) {
		t.Errorf("All, kept while the table went on: %v, want %v", all, want)
	}
	_ = append(table.All(), owned(6, "a", "z"))
	wantErr(t, "Ask", table.Ask(shared(5, "b", "b")), api.OK)
	wantHeld(t, table, shared(2, "a", "a"), shared(3, "a", "a"), shared(4, "a", "a"), shared(5, "b", "b"))
}

// The table has no limit of its own.
func TestManyHolds(t *testing.T) {
	table := lock.New()
	var held []lock.Hold
	for i := range 2000 {
		key := strconv.Itoa(100000 + i)
		h := owned(1+i%50, key, key)
		held = append(held, h)
		wantErr(t, "Ask", table.Ask(h), api.OK)
	}
	wantHeld(t, table, held...)
	wantCount(t, table, 2000)
	who := table.Who(from(99, lock.Share, ""))
	for i := range 50 {
		if len(who) != 50 || who[i] != i+1 {
			t.Fatalf("Who: %v, want 1 to 50", who)
		}
	}
	wantDropped(t, table, 50, 40)
	wantDropped(t, table, 1, 40)
}

// Promise 12.3.

func TestNilTable(t *testing.T) {
	var table *lock.Table
	for _, h := range []lock.Hold{{}, shared(1, "a", "a"), owned(1, "b", "a"), from(2, lock.Own, ""), {Txn: -1, Mode: 7, Hi: strings.Repeat("k", 17), Open: true}} {
		wantErr(t, "Ask", table.Ask(h), api.ErrState)
		wantHas(t, table, h, false)
		wantWho(t, table, h)
		wantErr(t, "Key", table.Key(h.Txn, h.Mode, h.Lo), api.ErrState)
		wantErr(t, "Range", table.Range(h.Txn, h.Mode, h.Lo, h.Hi), api.ErrState)
		wantDropped(t, table, h.Txn, 0)
		wantHeld(t, table)
		wantCount(t, table, 0)
	}
}

// A table that nobody made is no nil one: nothing is held.
func TestZeroTable(t *testing.T) {
	var table lock.Table
	wantHeld(t, &table)
	wantDropped(t, &table, 1, 0)
	wantErr(t, "Key", table.Key(1, lock.Own, "a"), api.OK)
	wantErr(t, "Key of another one", table.Key(2, lock.Share, "a"), api.ErrLocked)
	wantHeld(t, &table, owned(1, "a", "a"))
	wantCount(t, &table, 1)
}

// Promise 12.4, and 12.2 once more, step by step.

// plain is a table as the document's words have it, with texts that lie in holds
// instead of ends.
type plain struct {
	held  []lock.Hold
	count int
}

func (p *plain) has(h lock.Hold) bool {
	for _, g := range p.held {
		if g.Txn == h.Txn && g.Mode >= h.Mode && plainWithin(h, g) {
			return true
		}
	}
	return false
}

func (p *plain) ask(h lock.Hold) api.Errno {
	if !plainRight(h) {
		return api.ErrArg
	}
	if len(p.who(h)) > 0 {
		return api.ErrLocked
	}
	if !p.has(h) {
		p.held = append(p.held, h)
		p.count++
	}
	return api.OK
}

func (p *plain) drop(txn int) int {
	var left []lock.Hold
	many := 0
	for _, g := range p.held {
		if g.Txn == txn {
			many++
		} else {
			left = append(left, g)
		}
	}
	p.held = left
	return many
}

func (p *plain) who(h lock.Hold) []int {
	var told []int
	for _, g := range p.held {
		if plainBar(g, h) && !slices.Contains(told, g.Txn) {
			told = append(told, g.Txn)
		}
	}
	return told
}

// anyHold is mostly one that may be.
func anyHold(chance *rand.Rand) lock.Hold {
	list := ends()
	h := lock.Hold{Txn: 1 + chance.Intn(5), Mode: 1 + chance.Intn(2), Lo: list[chance.Intn(len(list))], Hi: list[chance.Intn(len(list))]}
	switch chance.Intn(12) {
	case 0, 1:
		h.Hi, h.Open = "", true
	case 2, 3, 4, 5:
		h.Hi = h.Lo
	case 6:
		h.Txn = -chance.Intn(2)
	case 7:
		h.Mode = 3 * chance.Intn(2)
	case 8:
		h.Open = true
	default:
		h.Lo, h.Hi = min(h.Lo, h.Hi), max(h.Lo, h.Hi)
	}
	return h
}

func wantApart(t *testing.T, table *lock.Table) {
	t.Helper()
	all := table.All()
	for _, a := range all {
		if !plainRight(a) {
			t.Errorf("%v is held, and may not be", a)
		}
		for _, b := range all {
			if lock.Bar(a, b) || plainBar(a, b) {
				t.Errorf("%v and %v are held, and bar one another", a, b)
			}
		}
	}
}

func TestManyStepsAgainstAPlainTable(t *testing.T) {
	for seed := range int64(60) {
		chance := rand.New(rand.NewSource(seed))
		table, p := lock.New(), &plain{}
		drops := 1 + int(seed%4) // so that some tables stay near empty, and some fill
		for step := range 300 {
			h := anyHold(chance)
			if chance.Intn(20) < drops {
				wantDropped(t, table, h.Txn, p.drop(h.Txn))
			} else {
				stepAsk(t, table, p, h, chance.Intn(3))
			}
			probe := anyHold(chance)
			if plainRight(probe) { // what has no text in it lies in all, by texts; by ends it need not
				wantHas(t, table, probe, p.has(probe))
				wantWho(t, table, probe, p.who(probe)...)
			}
			wantHeld(t, table, p.held...)
			wantCount(t, table, p.count)
			wantApart(t, table)
			if t.Failed() {
				t.Fatalf("seed %d step %d", seed, step)
			}
		}
	}
}

// stepAsk asks by one of the three calls that do.
func stepAsk(t *testing.T, table *lock.Table, p *plain, h lock.Hold, way int) {
	t.Helper()
	switch way {
	case 0:
		wantErr(t, "Key", table.Key(h.Txn, h.Mode, h.Lo), p.ask(lock.Hold{Txn: h.Txn, Mode: h.Mode, Lo: h.Lo, Hi: h.Lo}))
	case 1:
		wantErr(t, "Range", table.Range(h.Txn, h.Mode, h.Lo, h.Hi), p.ask(lock.Hold{Txn: h.Txn, Mode: h.Mode, Lo: h.Lo, Hi: h.Hi, Open: h.Hi == ""}))
	default:
		wantErr(t, "Ask", table.Ask(h), p.ask(h))
	}
}

// Of any two that may be, and of two transactions, the second is held or refused
// as Bar says, whichever comes first.
func TestAllPairsHeld(t *testing.T) {
	for _, a := range rightHolds() {
		for _, b := range rightHolds() {
			table := lock.New()
			wantErr(t, "Ask of the first", table.Ask(a), api.OK)
			want := api.OK
			if plainBar(a, b) {
				want = api.ErrLocked
			}
			if got := table.Ask(b); got != want {
				t.Fatalf("%v is held; Ask(%v): error %d, want %d", a, b, got, want)
			}
			wantApart(t, table)
		}
	}
}

package txn_test

import (
	"maps"
	"math"
	"slices"
	"strings"
	"testing"

	"gharry/api"
	"gharry/lock"
	"gharry/page"
	"gharry/rec"
	"gharry/tree"
	"gharry/txn"
	"gharry/wal"
)

// Promise 13.1.

func TestConstants(t *testing.T) {
	if txn.Cost != 4200 || txn.Margin != 4096 || txn.Pages != 8 {
		t.Errorf("Cost %d, Margin %d, Pages %d", txn.Cost, txn.Margin, txn.Pages)
	}
}

func TestNew(t *testing.T) {
	b := plenty(t)
	if txn.New(nil, b.l, 1) != nil || txn.New(b.x, nil, 1) != nil || txn.New(nil, nil, 1) != nil {
		t.Error("New of nil: not nil")
	}
	end := b.l.End()
	m := txn.New(b.x, b.l, 7)
	if m == nil || m.Dead() || len(m.Going()) != 0 || len(m.Table()) != 0 || m.Acts() != 0 || len(m.Holds(8)) != 0 || b.l.End() != end {
		t.Error("New: something goes on")
	}
}

func TestBegin(t *testing.T) {
	for _, first := range []int{0, 6, 1 << 40} {
		b := plenty(t)
		b.m = txn.New(b.x, b.l, first)
		end := b.l.End()
		var want []int
		for i := range api.MaxTxns {
			id := b.begin()
			want = append(want, first+1+i)
			if id != want[i] {
				t.Errorf("Begin: %d, want %d", id, want[i])
			}
			b.wantGoing("Begin", want...)
		}
		for range 3 {
			if id, err := b.m.Begin(); id != 0 || err != api.ErrFull {
				t.Errorf("a ninth: %d, error %d", id, err)
			}
		}
		b.wantGoing("a ninth", want...)
		b.ok("Abort", b.m.Abort(want[3]))
		b.commit(want[0])
		if id := b.begin(); id != first+9 {
			t.Errorf("Begin behind refusals: %d, want %d", id, first+9)
		}
		want = append(slices.Delete(slices.Clone(want), 3, 4)[1:], first+9)
		b.wantGoing("Begin behind others' ends", want...)
		if b.l.End() != end || b.l.Durable() > end {
			t.Errorf("something stands in the log")
		}
	}
}

func TestGet(t *testing.T) {
	b := plenty(t)
	b.committed("a", "1", "b", "", text('k', 16), text('v', 32))
	id := b.begin()
	for _, c := range []struct {
		key, val string
		is       bool
	}{{"a", "1", true}, {"b", "", true}, {"c", "", false}, {text('k', 16), text('v', 32), true}, {"\x00", "", false}} {
		if v, is, err := b.m.Get(id, c.key); v != c.val || is != c.is || err != api.OK {
			t.Errorf("Get(%q): %q, %v, error %d", c.key, v, is, err)
		}
	}
	b.put(id, "c", "3")
	b.remove(id, "a")
	if v, is, err := b.m.Get(id, "c"); v != "3" || !is || err != api.OK {
		t.Errorf("Get of its own: %q, %v, error %d", v, is, err)
	}
	if v, is, err := b.m.Get(id, "a"); v != "" || is || err != api.OK {
		t.Errorf("Get of what it took away: %q, %v, error %d", v, is, err)
	}
}

func TestScan(t *testing.T) {
	b := plenty(t)
	b.committed("a", "1", "b", "2", "c", "3", "d", "4")
	id := b.begin()
	b.remove(id, "c")
	b.put(id, "bb", "5")
	cases := []struct {
		lo, hi string
		most   int
		want   string
	}{
		{"", "", 99, "a b bb d "}, {"", "", 2, "a b "}, {"", "", 0, ""}, {"b", "c", 9, "b bb "}, {"b", "b", 9, "b "},
		{"c", "c", 9, ""}, {"", "a", 9, "a "}, {"bc", "", 9, "d "}, {text('b', 16), text('c', 16), 9, ""}, {"z", "", math.MaxInt, ""},
	}
	for _, c := range cases {
		l, err := b.m.Scan(id, c.lo, c.hi, c.most)
		got := ""
		for _, cell := range l {
			got += cell.Key + " "
		}
		if got != c.want || err != api.OK {
			t.Errorf("Scan(%q, %q, %d): %q, error %d, want %q", c.lo, c.hi, c.most, got, err, c.want)
		}
	}
}

// ended is a transaction with a put, a delete and a save, of which the next call ends it.
func ended(t testing.TB) (*bench, int) {
	t.Helper()
	b := plenty(t)
	b.committed("a", "1", "b", "2")
	id := b.begin()
	b.put(id, "a", "7")
	b.save(id)
	b.remove(id, "b")
	b.put(id, "c", "9")
	return b, id
}

// wantEnded asks whether a call that errs has taken the transaction back, as Abort does.
func wantEnded(t *testing.T, what string, want api.Errno, call func(b *bench, id int) api.Errno) {
	t.Helper()
	b, id := ended(t)
	other := b.begin()
	b.put(other, "x", "1")
	last := b.m.Table()[0].Last
	end := b.l.End()
	wantErr(t, what, call(b, id), want)
	places := b.entries(end)
	if len(places) != 4 || places[3].r.Kind != api.RecEnd || places[3].r.Txn != id || places[0].r.Prev != last {
		t.Fatalf("%s: it is not ended as by Abort: %+v", what, places)
	}
	b.wantCells(what, "a=1", "b=2", "x=1")
	b.wantGoing(what, other)
	if len(b.m.Holds(id)) != 0 || b.m.Acts() != 1 || b.m.Dead() {
		t.Errorf("%s: it holds %v, %d acts, dead %v", what, b.m.Holds(id), b.m.Acts(), b.m.Dead())
	}
	b.wantUnturned(what+", once more", func() {
		wantErr(t, what+", once more", call(b, id), api.ErrTxn)
		wantErr(t, "Abort", b.m.Abort(id), api.ErrTxn)
	})
}

func TestGetRefuses(t *testing.T) {
	for key, want := range map[string]api.Errno{"": api.ErrKey, text('k', 17): api.ErrKey, text('x', 99): api.ErrKey, "x": api.ErrLocked} {
		wantEnded(t, "Get", want, func(b *bench, id int) api.Errno {
			v, is, err := b.m.Get(id, key)
			if v != "" || is {
				t.Errorf("Get(%q): %q, %v", key, v, is)
			}
			return err
		})
	}
}

func TestScanRefuses(t *testing.T) {
	cases := []struct {
		lo, hi string
		most   int
		want   api.Errno
	}{
		{text('k', 17), "", 1, api.ErrKey}, {"", text('k', 17), 1, api.ErrKey}, {text('z', 17), "a", -1, api.ErrKey},
		{"b", "a", 1, api.ErrRange}, {"a\x00", "a", 1, api.ErrRange}, {"a", "b", -1, api.ErrRange}, {"", "", math.MinInt, api.ErrRange},
		{"z", "a", -1, api.ErrRange}, {"x", "w", 1, api.ErrRange}, {"x", "x", -1, api.ErrRange},
		{"", "", 0, api.ErrLocked}, {"x", "x", 0, api.ErrLocked}, {"c", "z", 9, api.ErrLocked}, {"x", "", 9, api.ErrLocked}, {"", "x", 1, api.ErrLocked},
	}
	for _, c := range cases {
		wantEnded(t, "Scan", c.want, func(b *bench, id int) api.Errno {
			l, err := b.m.Scan(id, c.lo, c.hi, c.most)
			if len(l) > 0 {
				t.Errorf("Scan(%q, %q, %d): %v", c.lo, c.hi, c.most, l)
			}
			return err
		})
	}
}

// What is shared others may share, and nobody else may turn; whether it is there, or not.
func TestWhatIsSeenIsLocked(t *testing.T) {
	for _, key := range []string{"a", "nobody"} {
		b := plenty(t)
		b.committed("a", "1")
		one, two, three := b.begin(), b.begin(), b.begin()
		for _, id := range []int{one, two} {
			_, _, err := b.m.Get(id, key)
			b.ok("Get", err)
		}
		if h := b.m.Holds(one); !slices.Equal(h, []lock.Hold{{Txn: one, Mode: lock.Share, Lo: key, Hi: key}}) {
			t.Errorf("Holds: %v", h)
		}
		_, err := b.m.Delete(three, key)
		wantErr(t, "Delete of what others see", err, api.ErrLocked)
		_, err = b.m.Put(two, key, "2")
		wantErr(t, "Put of what another one sees, too", err, api.ErrLocked)
		b.put(one, key, "3")
		b.wantGoing("behind all", one)
	}
	b := plenty(t)
	one, two := b.begin(), b.begin()
	_, err := b.m.Scan(one, "f", "h", 0)
	b.ok("Scan", err)
	_, err = b.m.Scan(one, "x", "", 1)
	b.ok("Scan", err)
	want := []lock.Hold{{Txn: one, Mode: lock.Share, Lo: "f", Hi: "h"}, {Txn: one, Mode: lock.Share, Lo: "x", Open: true}}
	if h := b.m.Holds(one); !slices.Equal(h, want) {
		t.Errorf("Holds: %v, want %v", h, want)
	}
	for _, key := range []string{"e", "h\x00", "w"} {
		b.put(two, key, "")
	}
	for _, key := range []string{"f", "g", "h", "x", "zz"} {
		id := b.begin()
		_, err := b.m.Put(id, key, "")
		wantErr(t, "Put in a range", err, api.ErrLocked)
	}
}

// Promise 13.2.

func TestPutAndDelete(t *testing.T) {
	b := plenty(t)
	id, from := b.begin(), b.l.End()
	do := func(what string, is, want bool, err api.Errno) {
		t.Helper()
		if is != want || err != api.OK {
			t.Errorf("%s: %v, error %d, want %v", what, is, err, want)
		}
	}
	is, err := b.m.Put(id, "k", "1")
	do("Put of a new key", is, false, err)
	is, err = b.m.Put(id, "k", "22")
	do("Put of a key", is, true, err)
	is, err = b.m.Put(id, "k", "22")
	do("Put of what is there", is, true, err)
	is, err = b.m.Delete(id, "none")
	do("Delete of no key", is, false, err)
	is, err = b.m.Delete(id, "k")
	do("Delete of a key", is, true, err)
	is, err = b.m.Delete(id, "k")
	do("Delete once more", is, false, err)
	is, err = b.m.Put(id, "k", "")
	do("Put behind a delete", is, false, err)
	is, err = b.m.Put(id, text('k', 16), text('v', 32))
	do("Put of the longest", is, false, err)
	at := b.entries(from)
	places := b.wantRecords("Put and Delete", from,
		api.Rec{Kind: api.RecInsert, Txn: id, Page: 1, Key: "k", New: "1"},
		api.Rec{Kind: api.RecUpdate, Txn: id, Prev: at[0].at, Page: 1, Key: "k", Old: "1", New: "22"},
		api.Rec{Kind: api.RecUpdate, Txn: id, Prev: at[1].at, Page: 1, Key: "k", Old: "22", New: "22"},
		api.Rec{Kind: api.RecDelete, Txn: id, Prev: at[2].at, Page: 1, Key: "k", Old: "22"},
		api.Rec{Kind: api.RecInsert, Txn: id, Prev: at[3].at, Page: 1, Key: "k"},
		api.Rec{Kind: api.RecInsert, Txn: id, Prev: at[4].at, Page: 1, Key: text('k', 16), New: text('v', 32)},
	)
	b.wantCells("Put and Delete", "k=", text('k', 16)+"="+text('v', 32))
	if got := b.m.Table(); !slices.Equal(got, []api.Active{{Txn: id, Last: places[5]}}) || b.m.Acts() != 6 {
		t.Errorf("Table %v, Acts %d", got, b.m.Acts())
	}
	want := []lock.Hold{{Txn: id, Mode: lock.Own, Lo: "k", Hi: "k"}, {Txn: id, Mode: lock.Own, Lo: "none", Hi: "none"}, {Txn: id, Mode: lock.Own, Lo: text('k', 16), Hi: text('k', 16)}}
	if h := b.m.Holds(id); !slices.Equal(h, want) {
		t.Errorf("Holds: %v", h)
	}
}

func TestPutRefuses(t *testing.T) {
	cases := []struct {
		key, val string
		want     api.Errno
	}{
		{"", "", api.ErrKey}, {text('k', 17), "", api.ErrKey}, {"", text('v', 33), api.ErrKey}, {text('x', 17), text('v', 33), api.ErrKey},
		{"k", text('v', 33), api.ErrValue}, {"x", text('v', 33), api.ErrValue}, {"k", text('v', 999), api.ErrValue},
		{"x", "", api.ErrLocked}, {"x", text('v', 32), api.ErrLocked},
	}
	for _, c := range cases {
		wantEnded(t, "Put", c.want, func(b *bench, id int) api.Errno {
			is, err := b.m.Put(id, c.key, c.val)
			if is {
				t.Errorf("Put(%q, %q): true", c.key, c.val)
			}
			return err
		})
		if c.val != "" {
			continue
		}
		wantEnded(t, "Delete", c.want, func(b *bench, id int) api.Errno {
			is, err := b.m.Delete(id, c.key)
			if is {
				t.Errorf("Delete(%q): true", c.key)
			}
			return err
		})
	}
}

// acts are the ways to ask for an act on a key.
func acts() map[string]func(m *txn.Manager, id int, key string) (bool, api.Errno) {
	return map[string]func(m *txn.Manager, id int, key string) (bool, api.Errno){
		"Put":    func(m *txn.Manager, id int, key string) (bool, api.Errno) { return m.Put(id, key, "v") },
		"Delete": func(m *txn.Manager, id int, key string) (bool, api.Errno) { return m.Delete(id, key) },
	}
}

// An act with just so many bytes left as it needs, and with one less: with acts of others,
// its own ones, and none ahead; of a delete of a key that has none, too.
func TestRoomOfTheLog(t *testing.T) {
	for what, act := range acts() {
		for _, key := range []string{"a", "none"} {
			for ahead := range 4 {
				for less := range 2 {
					b := plenty(t)
					b.committed("a", "1")
					other, id := b.begin(), b.begin()
					for i := range ahead {
						b.put([]int{other, id}[i%2], []string{"o", "p"}[i%2], text('1', i))
					}
					b.fill(txn.Margin + (2+ahead)*txn.Cost - less)
					_, err := act(b.m, id, key)
					if less == 0 {
						wantErr(t, what+" with just room", err, api.OK)
						b.wantGoing(what, other, id)
						continue
					}
					wantErr(t, what+" with a byte too few", err, api.ErrFull)
					b.wantGoing(what, other)
					if v, is, err := b.x.Get("a"); v != "1" || !is || err != api.OK || b.m.Dead() {
						t.Errorf("%s: a is %q, %v, error %d; dead %v", what, v, is, err, b.m.Dead())
					}
				}
			}
		}
	}
}

func TestRoomOfPages(t *testing.T) {
	for what, act := range acts() {
		for _, key := range []string{"a", "none"} {
			for ahead := range 4 {
				for less := range 2 {
					b := newBench(t, 8, 2+(2+ahead)*txn.Pages-less, plentyLog)
					other, id := b.begin(), b.begin()
					for i := range ahead {
						b.put([]int{other, id}[i%2], []string{"o", "p"}[i%2], text('1', i))
					}
					_, err := act(b.m, id, key)
					if less == 0 {
						wantErr(t, what+" with just pages", err, api.OK)
						b.wantGoing(what, other, id)
						continue
					}
					wantErr(t, what+" with a page too few", err, api.ErrFull)
					b.wantGoing(what, other)
				}
			}
		}
	}
}

// What is taken back, committed or ended needs no room any more.
func TestRoomComesBack(t *testing.T) {
	const most = 3
	for what, free := range map[string]func(b *bench, id int){
		"Back":   func(b *bench, id int) { b.ok("Back", b.m.Back(id, 0)) },
		"Commit": func(b *bench, id int) { b.commit(id) },
		"Abort":  func(b *bench, id int) { b.ok("Abort", b.m.Abort(id)) },
		"error":  func(b *bench, id int) { b.m.Get(id, "") },
	} {
		b := newBench(t, 8, 2+(1+most)*txn.Pages, plentyLog)
		for range 5 {
			id := b.begin()
			b.save(id)
			for i := range most {
				b.put(id, "k", text('1', i))
			}
			if b.m.Acts() != most {
				t.Errorf("Acts: %d", b.m.Acts())
			}
			other := b.begin()
			_, err := b.m.Put(other, "o", "")
			wantErr(t, "Put without room", err, api.ErrFull)
			free(b, id)
			if b.m.Acts() != 0 {
				t.Errorf("Acts behind %s: %d", what, b.m.Acts())
			}
			other = b.begin()
			b.put(other, "o", "")
			b.commit(other)
			if what == "Back" {
				b.commit(id)
			}
		}
	}
}

// Errors in the order in which they are named.
func TestWhichErrorComesFirst(t *testing.T) {
	full := func() (*bench, int) {
		b := plenty(t)
		other, id := b.begin(), b.begin()
		b.put(other, "x", "1")
		b.fill(txn.Margin)
		return b, id
	}
	for _, c := range []struct {
		key, val string
		want     api.Errno
	}{{"", text('v', 33), api.ErrKey}, {"x", text('v', 33), api.ErrValue}, {"x", "", api.ErrLocked}, {"y", "", api.ErrFull}} {
		b, id := full()
		_, err := b.m.Put(id, c.key, c.val)
		wantErr(t, "Put", err, c.want)
		_, err = b.m.Put(id, c.key, c.val)
		wantErr(t, "Put of one that does not go on", err, api.ErrTxn)
		if c.want == api.ErrValue {
			continue
		}
		b, id = full()
		_, err = b.m.Delete(id, c.key)
		wantErr(t, "Delete", err, c.want)
	}
}

// A leaf is parted by a put, and tidied by a delete: the records tell the leaf in which it was.
func TestLeaves(t *testing.T) {
	b := plenty(t)
	keys := []string{}
	for i := range 18 {
		keys = append(keys, text(byte('a'+i), 16))
	}
	for _, key := range keys {
		id, from := b.begin(), b.l.End()
		b.put(id, key, text('v', 32))
		b.wantRecords("Put", from, api.Rec{Kind: api.RecInsert, Txn: id, Page: b.leafOf(key), Key: key, New: text('v', 32)})
		b.commit(id)
	}
	if b.x.Height() < 2 || !b.x.Check() {
		t.Fatalf("Height %d, Check %v", b.x.Height(), b.x.Check())
	}
	for _, key := range keys {
		id, from, leaf := b.begin(), b.l.End(), b.leafOf(key)
		b.remove(id, key)
		b.wantRecords("Delete", from, api.Rec{Kind: api.RecDelete, Txn: id, Page: leaf, Key: key, Old: text('v', 32)})
		b.commit(id)
		if !b.x.Check() {
			t.Fatal("no tree")
		}
	}
	if b.x.Height() != 1 || b.x.Free() != 198 {
		t.Errorf("Height %d, Free %d: it was not tidied", b.x.Height(), b.x.Free())
	}
}

// A delete needs no room: a leaf that is full is not parted by it.
func TestDeleteInAFullLeaf(t *testing.T) {
	b := plenty(t)
	for _, c := range []byte("abcde") {
		b.committed(text(c, 9), text('1', 32))
	}
	id := b.begin()
	b.remove(id, text('c', 9))
	if b.x.Height() != 1 || b.x.Free() != 198 {
		t.Errorf("Height %d, Free %d", b.x.Height(), b.x.Free())
	}
}

// What takes an insert back is a delete: behind it a leaf is tidied, too.
func TestTidiedWhenTakenBack(t *testing.T) {
	b := plenty(t)
	b.committed("a", "1")
	id := b.begin()
	for i := range 12 {
		b.put(id, text(byte('b'+i), 16), text('v', 32))
	}
	if b.x.Height() < 2 {
		t.Fatalf("Height %d", b.x.Height())
	}
	b.ok("Abort", b.m.Abort(id))
	if b.x.Height() != 1 || b.x.Free() != 198 {
		t.Errorf("Height %d, Free %d", b.x.Height(), b.x.Free())
	}
	b.wantCells("Abort", "a=1")
}

// Behind a mark a leaf stands in the log as a whole, ahead of the record that turns it.
func TestLeavesAreCovered(t *testing.T) {
	for what, act := range acts() {
		b := plenty(t)
		b.committed("a", "1")
		id := b.begin()
		b.x.Mark(b.l.End())
		before, _, err := b.p.Get(1)
		b.ok("pool: Get", err)
		from := b.l.End()
		_, err = act(b.m, id, "a")
		b.ok(what, err)
		full, next, err := b.l.Read(from)
		b.ok("wal: Read", err)
		if full.Kind != api.RecFull || full.Images[0] != (api.Image{Page: 1, Text: before}) {
			t.Errorf("%s: the first record is %+v", what, full)
		}
		if r, _, _ := b.l.Read(next); r.Txn != id || r.Page != 1 {
			t.Errorf("%s: the next one is %+v", what, r)
		}
		b.x.Mark(b.l.End())
		from = b.l.End()
		b.ok("Abort", b.m.Abort(id))
		if full, _, _ := b.l.Read(from); full.Kind != api.RecFull {
			t.Errorf("behind a mark, Abort begins with %+v", full)
		}
		b.wantCells(what, "a=1")
	}
}

// An update in a leaf that is full parts it: room is made for all of the cell.
func TestUpdateInAFullLeaf(t *testing.T) {
	b := plenty(t)
	for _, c := range []byte("abcde") {
		b.committed(text(c, 9), text('1', 32))
	}
	if page.Room(mustGet(b, 1)) != 0 || b.x.Height() != 1 {
		t.Fatalf("Room %d, Height %d", page.Room(mustGet(b, 1)), b.x.Height())
	}
	id := b.begin()
	b.put(id, text('c', 9), text('2', 32))
	if b.x.Height() != 2 || !b.x.Check() {
		t.Errorf("Height %d, Check %v", b.x.Height(), b.x.Check())
	}
	b.ok("Abort", b.m.Abort(id))
	if v, _, _ := b.x.Get(text('c', 9)); v != text('1', 32) || !b.x.Check() {
		t.Errorf("behind Abort: %q", v)
	}
}

func mustGet(b *bench, id int) string {
	b.t.Helper()
	text, _, err := b.p.Get(id)
	b.ok("pool: Get", err)
	return text
}

// Promise 13.3.

func TestSaveAndBack(t *testing.T) {
	b := plenty(t)
	b.committed("a", "1", "d", "4")
	id, from := b.begin(), b.l.End()
	b.put(id, "a", "2")
	if which := b.save(id); which != 0 {
		t.Errorf("Save: %d", which)
	}
	b.put(id, "a", "3")
	b.put(id, "b", "x")
	b.remove(id, "d")
	at := b.entries(from)
	from = b.l.End()
	b.ok("Back", b.m.Back(id, 0))
	undone := b.entries(from)
	b.wantRecords("Back", from,
		api.Rec{Kind: api.RecUndo, Txn: id, Prev: at[3].at, Next: at[2].at, Act: api.RecInsert, Page: 1, Key: "d", New: "4"},
		api.Rec{Kind: api.RecUndo, Txn: id, Prev: undone[0].at, Next: at[1].at, Act: api.RecDelete, Page: 1, Key: "b", Old: "x"},
		api.Rec{Kind: api.RecUndo, Txn: id, Prev: undone[1].at, Next: at[0].at, Act: api.RecUpdate, Page: 1, Key: "a", Old: "3", New: "2"},
	)
	b.wantCells("Back", "a=2", "d=4")
	if b.m.Acts() != 1 || !slices.Equal(b.m.Table(), []api.Active{{Txn: id, Last: undone[2].at}}) {
		t.Errorf("Acts %d, Table %v", b.m.Acts(), b.m.Table())
	}
	if h := b.m.Holds(id); len(h) != 3 {
		t.Errorf("Holds: %v", h)
	}
	b.wantUnturned("Back once more", func() { wantErr(t, "Back", b.m.Back(id, 0), api.OK) })
	b.put(id, "e", "5")
	last := b.m.Table()[0].Last
	if r, _, _ := b.l.Read(last); r.Prev != undone[2].at {
		t.Errorf("a put behind Back: %+v", r)
	}
	from = b.l.End()
	b.ok("Abort", b.m.Abort(id))
	now := b.entries(from)
	b.wantRecords("Abort behind Back", from,
		api.Rec{Kind: api.RecUndo, Txn: id, Prev: last, Next: undone[2].at, Act: api.RecDelete, Page: 1, Key: "e", Old: "5"},
		api.Rec{Kind: api.RecUndo, Txn: id, Prev: now[0].at, Next: 0, Act: api.RecUpdate, Page: 1, Key: "a", Old: "2", New: "1"},
		api.Rec{Kind: api.RecEnd, Txn: id, Prev: now[1].at},
	)
	b.wantCells("Abort", "a=1", "d=4")
}

// The document's example.
func TestExample(t *testing.T) {
	b := plenty(t)
	id := b.begin()
	b.put(id, "a", "1")
	b.save(id)
	b.put(id, "a", "2")
	b.ok("Back", b.m.Back(id, 0))
	if v, is, err := b.m.Get(id, "a"); v != "1" || !is || err != api.OK {
		t.Errorf("Get: %q, %v, error %d", v, is, err)
	}
}

// Saves one behind the other, with and without acts between: which there are behind Back.
func TestManySaves(t *testing.T) {
	b := plenty(t)
	id := b.begin()
	value := func(want string) {
		t.Helper()
		if v, is, _ := b.x.Get("k"); v != want || is != (want != "") {
			t.Errorf("k is %q, %v, want %q", v, is, want)
		}
	}
	for i := range api.MaxSaves {
		if which := b.save(id); which != i {
			t.Errorf("Save: %d, want %d", which, i)
		}
		if i != 4 {
			b.put(id, "k", text('1', i+1))
		}
	}
	b.ok("Back", b.m.Back(id, 7))
	value(text('1', 7))
	b.put(id, "k", "new")
	b.ok("Back", b.m.Back(id, 5))
	value(text('1', 4))
	if which := b.save(id); which != 6 {
		t.Errorf("Save behind Back: %d", which)
	}
	b.put(id, "k", "newer")
	b.ok("Back", b.m.Back(id, 6))
	value(text('1', 4))
	b.ok("Back", b.m.Back(id, 4))
	value(text('1', 4))
	b.ok("Back", b.m.Back(id, 2))
	value(text('1', 2))
	b.put(id, "k", "newest")
	b.ok("Back", b.m.Back(id, 2))
	value(text('1', 2))
	b.ok("Back", b.m.Back(id, 0))
	value("")
	if b.m.Acts() != 0 || len(b.m.Table()) != 1 {
		t.Errorf("Acts %d, Table %v", b.m.Acts(), b.m.Table())
	}
	wantErr(t, "Back to one that is gone", b.m.Back(id, 1), api.ErrNone)
	b.wantGoing("Back to one that is gone")
}

// A save of one that has no record: all is taken back, and the save is there yet.
func TestSaveOfNothing(t *testing.T) {
	b := plenty(t)
	id, end := b.begin(), b.l.End()
	b.save(id)
	b.ok("Back", b.m.Back(id, 0))
	if b.l.End() != end || len(b.m.Table()) != 0 {
		t.Errorf("Back of nothing: the log ends at %d, was %d", b.l.End(), end)
	}
	for range 3 {
		b.put(id, "k", "1")
		b.ok("Back", b.m.Back(id, 0))
		b.wantCells("Back")
	}
}

func TestSaveAndBackRefuse(t *testing.T) {
	wantEnded(t, "Save", api.ErrFull, func(b *bench, id int) api.Errno {
		if slices.Contains(b.m.Going(), id) {
			for range api.MaxSaves - 1 {
				b.save(id)
			}
		}
		which, err := b.m.Save(id)
		if which != 0 {
			t.Errorf("Save: %d", which)
		}
		return err
	})
	for _, save := range []int{-1, 1, 7, 8, math.MinInt, math.MaxInt} {
		wantEnded(t, "Back", api.ErrNone, func(b *bench, id int) api.Errno { return b.m.Back(id, save) })
	}
	b := plenty(t)
	one, two := b.begin(), b.begin()
	b.save(one)
	wantErr(t, "Back to another one's save", b.m.Back(two, 0), api.ErrNone)
	b.wantGoing("Back to another one's save", one)
}

func TestCommit(t *testing.T) {
	b := plenty(t)
	b.m = txn.New(b.x, b.l, high)
	none := b.begin()
	_, _, err := b.m.Get(none, "a")
	b.ok("Get", err)
	end, durable := b.l.End(), b.l.Durable()
	if at := b.commit(none); at != 0 || b.l.End() != end || b.l.Durable() != durable {
		t.Errorf("Commit of nothing: %d; the log ends at %d, was %d", at, b.l.End(), end)
	}
	b.wantGoing("Commit of nothing")
	id, other := b.begin(), b.begin()
	b.put(id, "a", "1")
	b.put(other, "b", "2")
	last := b.m.Table()[0].Last
	if b.l.Durable() == b.l.End() {
		t.Fatal("a put lasts already")
	}
	end = b.l.End()
	at := b.commit(id)
	b.wantRecords("Commit", end, api.Rec{Kind: api.RecCommit, Txn: id, Prev: last})
	if at != end || b.l.Durable() != b.l.End() {
		t.Errorf("Commit: %d, want %d; %d of %d lasts", at, end, b.l.Durable(), b.l.End())
	}
	b.wantGoing("Commit", other)
	if len(b.m.Holds(id)) != 0 || len(b.m.Holds(other)) != 1 || b.m.Acts() != 1 {
		t.Errorf("Holds %v, %v, Acts %d", b.m.Holds(id), b.m.Holds(other), b.m.Acts())
	}
	b.put(other, "a", "3")
	b.ok("Abort", b.m.Abort(other))
	b.wantCells("Commit of one, Abort of the other", "a=1")
}

// One whose acts are all taken back has records yet: its commit is one, too.
func TestCommitBehindBack(t *testing.T) {
	b := plenty(t)
	id := b.begin()
	b.save(id)
	b.put(id, "a", "1")
	b.ok("Back", b.m.Back(id, 0))
	last, end := b.m.Table()[0].Last, b.l.End()
	if at := b.commit(id); at != end {
		t.Errorf("Commit: %d, want %d", at, end)
	}
	b.wantRecords("Commit", end, api.Rec{Kind: api.RecCommit, Txn: id, Prev: last})
	b.wantCells("Commit")
}

func TestAbort(t *testing.T) {
	b := plenty(t)
	b.committed("a", "1", "b", "2")
	none := b.begin()
	_, err := b.m.Scan(none, "", "", 9)
	b.ok("Scan", err)
	end := b.l.End()
	b.ok("Abort", b.m.Abort(none))
	if b.l.End() != end || len(b.m.Holds(none)) != 0 {
		t.Errorf("Abort of nothing: the log ends at %d, was %d", b.l.End(), end)
	}
	id := b.begin()
	b.remove(id, "a")
	b.put(id, "a", "9")
	b.put(id, "c", "3")
	b.put(id, "b", "")
	at := b.entries(end)
	from := b.l.End()
	durable := b.l.Durable()
	b.ok("Abort", b.m.Abort(id))
	now := b.entries(from)
	b.wantRecords("Abort", from,
		api.Rec{Kind: api.RecUndo, Txn: id, Prev: at[3].at, Next: at[2].at, Act: api.RecUpdate, Page: 1, Key: "b", New: "2"},
		api.Rec{Kind: api.RecUndo, Txn: id, Prev: now[0].at, Next: at[1].at, Act: api.RecDelete, Page: 1, Key: "c", Old: "3"},
		api.Rec{Kind: api.RecUndo, Txn: id, Prev: now[1].at, Next: at[0].at, Act: api.RecDelete, Page: 1, Key: "a", Old: "9"},
		api.Rec{Kind: api.RecUndo, Txn: id, Prev: now[2].at, Next: 0, Act: api.RecInsert, Page: 1, Key: "a", New: "1"},
		api.Rec{Kind: api.RecEnd, Txn: id, Prev: now[3].at},
	)
	b.wantCells("Abort", "a=1", "b=2")
	b.wantGoing("Abort")
	if b.l.Durable() != durable || b.m.Acts() != 0 || len(b.m.Holds(id)) != 0 {
		t.Errorf("Durable %d, was %d; Acts %d", b.l.Durable(), durable, b.m.Acts())
	}
}

// Of one that does not go on: nothing is done, and nobody else ends.
func TestWhoDoesNotGoOn(t *testing.T) {
	b := plenty(t)
	over, gone, id := b.begin(), b.begin(), b.begin()
	b.put(id, "a", "1")
	b.commit(over)
	b.ok("Abort", b.m.Abort(gone))
	b.wantUnturned("who does not go on", func() {
		for _, who := range []int{over, gone, 0, -1, high, id + 1, math.MinInt, math.MaxInt} {
			for _, key := range []string{"a", "b", "", text('k', 17)} {
				v, is, err := b.m.Get(who, key)
				l, err2 := b.m.Scan(who, key, "a", -1)
				had, err3 := b.m.Put(who, key, text('v', 33))
				was, err4 := b.m.Delete(who, key)
				if v != "" || is || len(l) > 0 || had || was || err != api.ErrTxn || err2 != err || err3 != err || err4 != err {
					t.Errorf("errors %d, %d, %d, %d", err, err2, err3, err4)
				}
			}
			n, err := b.m.Save(who)
			at, err2 := b.m.Commit(who)
			if n != 0 || at != 0 || err != api.ErrTxn || err2 != err || b.m.Back(who, -1) != err || b.m.Abort(who) != err || len(b.m.Holds(who)) > 0 {
				t.Errorf("Save %d, error %d; Commit %d, error %d", n, err, at, err2)
			}
		}
	})
}

// Promise 13.4.

func TestGoingAndTable(t *testing.T) {
	b := plenty(t)
	one, two, three := b.begin(), b.begin(), b.begin()
	b.put(three, "c", "")
	b.put(one, "a", "")
	_, _, err := b.m.Get(two, "b")
	b.ok("Get", err)
	table := b.m.Table()
	at := b.entries(1)
	if !slices.Equal(table, []api.Active{{Txn: one, Last: at[1].at}, {Txn: three, Last: at[0].at}}) {
		t.Errorf("Table: %v", table)
	}
	going := b.m.Going()
	if !slices.Equal(going, []int{one, two, three}) {
		t.Errorf("Going: %v", going)
	}
	holds := b.m.Holds(one)
	going[0], table[0], holds[0] = 7, api.Active{}, lock.Hold{}
	b.wantGoing("behind a change of what was told", one, two, three)
	if b.m.Table()[0].Txn != one || b.m.Holds(one)[0].Txn != one || b.m.Acts() != 2 {
		t.Errorf("Table %v, Holds %v, Acts %d", b.m.Table(), b.m.Holds(one), b.m.Acts())
	}
}

// lost is a bench with three transactions that went on when all but the disk went; what
// is told of them, in some order.
func lost(t testing.TB) (*bench, []api.Active) {
	t.Helper()
	b := plenty(t)
	b.committed("a", "1", "b", "2", "c", "3")
	one, two, three := b.begin(), b.begin(), b.begin()
	b.put(two, "b", "8")
	b.put(one, "a", "7")
	b.save(three)
	b.remove(three, "c")
	b.put(three, "d", "x")
	b.ok("Back", b.m.Back(three, 0))
	b.put(one, "e", "9")
	b.remove(three, "c")
	b.remove(two, "b")
	table := b.m.Table()
	b.m = txn.New(b.x, b.l, 1000)
	return b, []api.Active{table[0], table[2], table[1]}
}

// That of the greatest last record first, each one whole, and ended.
func TestLose(t *testing.T) {
	b, table := lost(t)
	told := slices.Clone(table)
	from := b.l.End()
	wantErr(t, "Lose", b.m.Lose(table), api.OK)
	if !slices.Equal(table, told) {
		t.Errorf("what is handed in is changed: %v, was %v", table, told)
	}
	b.wantCells("Lose", "a=1", "b=2", "c=3")
	if b.l.Durable() != b.l.End() {
		t.Errorf("%d of %d lasts", b.l.Durable(), b.l.End())
	}
	slices.SortFunc(told, func(x, y api.Active) int { return y.Last - x.Last })
	if told[0].Txn != 103 || told[1].Txn != 104 || told[2].Txn != 102 {
		// two deleted last, three ahead of it, one ahead of that
		t.Fatalf("who is lost: %v", told)
	}
	var kinds, whose []int
	for _, e := range b.entries(from) {
		kinds, whose = append(kinds, e.r.Kind), append(whose, e.r.Txn)
	}
	if !slices.Equal(kinds, []int{6, 6, 8, 6, 8, 6, 6, 8}) || !slices.Equal(whose, []int{103, 103, 103, 104, 104, 102, 102, 102}) {
		t.Errorf("records %v of %v", kinds, whose)
	}
	for _, a := range told {
		last := a.Last
		for _, e := range b.entries(from) {
			if e.r.Txn == a.Txn {
				if e.r.Prev != last {
					t.Errorf("a record of %d behind %d, want %d", a.Txn, e.r.Prev, last)
				}
				last = e.at
			}
		}
	}
	b.wantGoing("Lose")
	if id := b.begin(); id != 1001 || b.m.Acts() != 0 || len(b.m.Table()) != 0 || b.m.Dead() {
		t.Errorf("Begin behind Lose: %d", id)
	}
}

// Once more, in another order, and with those told last that come first.
func TestLoseInAnyOrder(t *testing.T) {
	b, table := lost(t)
	b.ok("Lose", b.m.Lose(table))
	want, end := b.cells(), b.l.End()
	for _, order := range [][]int{{0, 1, 2}, {0, 2, 1}, {1, 0, 2}, {1, 2, 0}, {2, 0, 1}, {2, 1, 0}} {
		b, table := lost(t)
		var l []api.Active
		for _, i := range order {
			l = append(l, table[i])
		}
		b.ok("Lose", b.m.Lose(l))
		if !slices.Equal(b.cells(), want) || b.l.End() != end {
			t.Errorf("in the order %v: %q", order, b.cells())
		}
		b, table = lost(t)
		for _, i := range order {
			b.ok("Lose", b.m.Lose(table[i:i+1]))
		}
		b.wantCells("one by one", want...)
	}
}

func TestLoseOfNobody(t *testing.T) {
	for _, l := range [][]api.Active{nil, {}} {
		b := plenty(t)
		end := b.l.End()
		if b.l.Durable() == end {
			t.Fatal("all lasts already")
		}
		wantErr(t, "Lose", b.m.Lose(l), api.OK)
		if b.l.End() != end || b.l.Durable() != end {
			t.Errorf("the log ends at %d, was %d; %d lasts", b.l.End(), end, b.l.Durable())
		}
	}
}

// One without a record has nothing to be taken back; it is ended by a record.
func TestLoseOfNoRecord(t *testing.T) {
	b := plenty(t)
	end := b.l.End()
	wantErr(t, "Lose", b.m.Lose([]api.Active{{Txn: 7}}), api.OK)
	b.wantRecords("Lose", end, api.Rec{Kind: api.RecEnd, Txn: 7})
}

// One that is told twice is lost once.
func TestLoseTwice(t *testing.T) {
	b, table := lost(t)
	b.ok("Lose", b.m.Lose(append(table, table...)))
	b.wantCells("Lose", "a=1", "b=2", "c=3")
	end := b.l.End()
	for _, e := range b.entries(1) {
		if e.r.Kind == api.RecEnd {
			table[0] = api.Active{Txn: e.r.Txn, Last: e.r.Prev}
		}
	}
	b.ok("Lose of what was taken back", b.m.Lose(table[:1]))
	b.wantRecords("Lose of what was taken back", end, api.Rec{Kind: api.RecEnd, Txn: table[0].Txn, Prev: table[0].Last})
	b.wantCells("Lose of what was taken back", "a=1", "b=2", "c=3")
}

// One of the manager's own goes on no more, and holds nothing.
func TestLoseOfItsOwn(t *testing.T) {
	b := plenty(t)
	b.committed("a", "1")
	id, other := b.begin(), b.begin()
	b.put(id, "a", "2")
	b.put(id, "b", "2")
	b.put(other, "c", "3")
	b.ok("Lose", b.m.Lose(b.m.Table()[:1]))
	b.wantCells("Lose", "a=1", "c=3")
	b.wantGoing("Lose", other)
	if b.m.Acts() != 1 || len(b.m.Holds(id)) != 0 {
		t.Errorf("Acts %d, Holds %v", b.m.Acts(), b.m.Holds(id))
	}
	stale := b.m.Table()
	b.put(other, "c", "4")
	wantErr(t, "Lose of a record that is not its last one", b.m.Lose(stale), api.ErrDamage)
}

// damaged is a bench with one who went on, 102, a value of which looks like a record of
// his, and with records of 9 of which none is the last one of somebody who goes on: their
// places by names. But for what the tree has not, all of it is wrong in the log already.
// The last record of all is that of 102.
func damaged(t testing.TB) (*bench, api.Active, map[string]int) {
	t.Helper()
	b := plenty(t)
	b.committed("a", "1")
	id := b.begin()
	inside := mustFrame(api.Rec{Kind: api.RecInsert, Txn: id, Key: "a", New: "2"})
	b.put(id, "k", inside)
	b.put(id, "a", "2")
	at := b.entries(1)
	places := map[string]int{"inside": at[2].at + len(mustFrame(at[2].r)) - len(inside)}
	wrong := map[string]api.Rec{
		"behind what comes later":  {Kind: api.RecInsert, Prev: 1 << 40},
		"back to what comes later": {Kind: api.RecUndo, Next: 1 << 40, Act: api.RecInsert},
		"behind another one's":     {Kind: api.RecInsert, Prev: at[0].at},
		"behind none":              {Kind: api.RecInsert, Prev: 2},
		"a commit":                 {Kind: api.RecCommit},
		"an end":                   {Kind: api.RecEnd},
		"a check":                  {Kind: api.RecCheck},
		"tree: nothing to delete":  {Kind: api.RecInsert, Key: "z"},
		"tree: another value":      {Kind: api.RecInsert, Key: "a", New: "other"},
		"tree: one to insert":      {Kind: api.RecDelete, Key: "a"},
		"tree: nothing to update":  {Kind: api.RecUpdate, Key: "z"},
		"tree: one to update":      {Kind: api.RecUpdate, Key: "a", New: "other"},
	}
	for _, what := range slices.Sorted(maps.Keys(wrong)) {
		r := wrong[what]
		r.Txn, r.Page = 9, 1
		place, err := b.l.Append(r)
		b.ok("wal: Append", err)
		places[what] = place
	}
	itself := api.Rec{Kind: api.RecInsert, Txn: 9, Prev: b.l.End(), Page: 1}
	place, err := b.l.Append(itself)
	b.ok("wal: Append", err)
	places["behind itself"] = place
	b.put(id, "m", "3")
	going := b.m.Table()[0]
	b.m = txn.New(b.x, b.l, 1000)
	return b, going, places
}

// What is told of one who is lost is not so: it is damage, and nothing is done for it.
func TestLoseOfDamage(t *testing.T) {
	b, _, places := damaged(t)
	if r, _, err := b.l.Read(places["inside"]); err != api.OK || r.Txn != 102 {
		t.Fatalf("no record stands within a value: %+v, error %d", r, err)
	}
	for what := range places {
		b, _, places := damaged(t)
		a := api.Active{Txn: 9, Last: places[what]}
		if what == "inside" {
			a.Txn = 102
		}
		wantLoseDamage(b, what, a)
	}
	for _, last := range []int{-1, math.MinInt, b.l.End(), math.MaxInt, 2} {
		b, _, _ := damaged(t)
		wantLoseDamage(b, "no record", api.Active{Txn: 102, Last: last})
	}
	for _, id := range []int{103, 0, -1, math.MaxInt} {
		b, going, _ := damaged(t)
		wantLoseDamage(b, "another one's record", api.Active{Txn: id, Last: going.Last})
	}
}

func wantLoseDamage(b *bench, what string, a api.Active) {
	b.t.Helper()
	before := b.face()
	wantErr(b.t, "Lose, "+what, b.m.Lose([]api.Active{a}), api.ErrDamage)
	after := b.face()
	if !after.dead {
		b.t.Errorf("Lose, %s: not dead", what)
	}
	after.dead = false
	if !before.is(after) || !b.x.Check() {
		b.t.Errorf("Lose, %s: %+v, was %+v", what, after, before)
	}
	wantErr(b.t, "Lose of one who is dead", b.m.Lose(nil), api.ErrDown)
}

// What is wrong in the log already is found out ahead of the first change.
func TestLoseOfDamageBesideOthers(t *testing.T) {
	_, _, places := damaged(t)
	for what := range places {
		if strings.HasPrefix(what, "tree:") || what == "inside" {
			continue
		}
		b, going, places := damaged(t)
		cells, end := b.cells(), b.l.End()
		wrong := api.Active{Txn: 9, Last: places[what]}
		for _, l := range [][]api.Active{{going, wrong}, {wrong, going}} {
			b.m = txn.New(b.x, b.l, 1000)
			wantErr(t, "Lose, "+what, b.m.Lose(l), api.ErrDamage)
			b.wantCells("Lose, "+what, cells...)
			if b.l.End() != end {
				t.Errorf("Lose, %s: the log ends at %d, was %d", what, b.l.End(), end)
			}
		}
	}
}

func mustFrame(r api.Rec) string {
	f, err := rec.Frame(r)
	if err != api.OK {
		panic(err)
	}
	return f
}

// A number that has no room in a record can't be ended by one.
func TestLoseOfWrongNumbers(t *testing.T) {
	for _, id := range []int{-1, math.MinInt, 1 << 48, math.MaxInt} {
		b, table := lost(t)
		b.wantUnturned("Lose", func() {
			wantErr(t, "Lose", b.m.Lose(append(table, api.Active{Txn: id})), api.ErrRange)
		})
		b.ok("Lose", b.m.Lose(table))
	}
}

// Promise 13.5.

func TestManagersThatNobodyMade(t *testing.T) {
	for _, m := range []*txn.Manager{nil, {}} {
		wantRefused(t, m, 1, api.ErrState)
		for _, l := range [][]api.Active{nil, {{Txn: 1, Last: 1}}} {
			wantErr(t, "Lose", m.Lose(l), api.ErrState)
		}
		if len(m.Going()) > 0 || len(m.Table()) > 0 || m.Acts() != 0 || len(m.Holds(1)) > 0 || !m.Dead() {
			t.Error("something goes on")
		}
	}
}

// A tree and a log that nobody made, and no tree yet: there is no room for an act.
func TestWhatItStandsOnIsNotMade(t *testing.T) {
	b := plenty(t)
	cases := []struct {
		m   *txn.Manager
		get api.Errno
	}{
		{txn.New(&tree.Tree{}, b.l, 0), api.ErrState},
		{txn.New(b.x, &wal.Log{}, 0), api.OK},
		{bare(t, 8, 60, plentyLog).m, api.ErrNone},
	}
	for i, c := range cases {
		one, _ := c.m.Begin()
		_, _, err := c.m.Get(one, "a")
		wantErr(t, "Get", err, c.get)
		c.m.Abort(one)
		two, _ := c.m.Begin()
		_, err = c.m.Scan(two, "", "", 1)
		wantErr(t, "Scan", err, c.get)
		c.m.Abort(two)
		for what, act := range acts() {
			id, _ := c.m.Begin()
			_, err := act(c.m, id, "z")
			wantErr(t, what, err, api.ErrFull)
		}
		if len(c.m.Going()) > 0 || c.m.Dead() {
			t.Errorf("%d: %v go on, dead %v", i, c.m.Going(), c.m.Dead())
		}
	}
}

// Numbers that have no room in a lock, or in a record: nothing is done.
func TestWrongNumbers(t *testing.T) {
	for _, c := range []struct {
		high        int
		see, change api.Errno
	}{
		{-1, api.ErrLocked, api.ErrLocked}, {-8, api.ErrLocked, api.ErrLocked}, {math.MinInt, api.ErrLocked, api.ErrLocked},
		{math.MaxInt, api.ErrLocked, api.ErrLocked}, {1<<48 - 1, api.OK, api.ErrRange}, {1<<48 - 2, api.OK, api.OK},
	} {
		b := plenty(t)
		b.committed("a", "1")
		for i := range 9 {
			b.committed(text(byte('b'+i), 16), text('v', 32))
		}
		b.m = txn.New(b.x, b.l, c.high)
		b.x.Mark(b.l.End()) // no page is covered
		end, free := b.l.End(), b.x.Free()
		id := b.begin()
		if id != c.high+1 {
			t.Errorf("Begin: %d", id)
		}
		_, _, err := b.m.Get(id, "a")
		wantErr(t, "Get", err, c.see)
		b.m = txn.New(b.x, b.l, c.high)
		id = b.begin()
		_, err = b.m.Scan(id, "", "", 9)
		wantErr(t, "Scan", err, c.see)
		for what, act := range acts() {
			b.m = txn.New(b.x, b.l, c.high)
			id = b.begin()
			_, err = act(b.m, id, "a")
			wantErr(t, what, err, c.change)
			if c.change == api.OK {
				b.ok("Abort", b.m.Abort(id))
				continue
			}
			b.wantGoing(what)
			if b.l.End() != end || b.x.Free() != free || b.m.Dead() {
				t.Errorf("%s: the log ends at %d, was %d", what, b.l.End(), end)
			}
		}
	}
}

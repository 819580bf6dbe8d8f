package page_test

import (
	"math"
	"math/rand"
	"slices"
	"strconv"
	"strings"
	"testing"

	"gharry/api"
	"gharry/page"
)

func cell(key, val string) api.Cell { return api.Cell{Key: key, Val: val} }

// keyed are cells with these keys and no values.
func keyed(keys ...string) []api.Cell {
	l := make([]api.Cell, len(keys))
	for i, k := range keys {
		l[i] = cell(k, "")
	}
	return l
}

// long is a cell that needs so many bytes (4 to 51), by a key that begins with this byte.
func long(first byte, need int) api.Cell {
	rest := need - 4
	val := min(rest, api.MaxValue)
	return cell(string(first)+strings.Repeat("k", rest-val), strings.Repeat("v", val))
}

// longs are rising cells that need so many bytes each.
func longs(needs ...int) []api.Cell {
	l := make([]api.Cell, len(needs))
	for i, n := range needs {
		l[i] = long(byte('a'+i), n)
	}
	return l
}

// made is a page that Make gives.
func made(t *testing.T, kind, level int, l ...api.Cell) string {
	t.Helper()
	p, err := page.Make(kind, level, l)
	if err != api.OK {
		t.Fatalf("Make(%d, %d, %q): error %d", kind, level, l, err)
	}
	return p
}

// bytesOf is a page written by hand: its first bytes, noughts, and its slots from behind.
func bytesOf(first string, slots ...byte) string {
	p := make([]byte, api.PageBytes)
	copy(p, first)
	for i, s := range slots {
		p[api.PageBytes-1-i] = s
	}
	return string(p)
}

// turned is a page of which one byte is another.
func turned(p string, at int, b byte) string {
	return p[:at] + string([]byte{b}) + p[at+1:]
}

func wantErr(t *testing.T, what string, got, want api.Errno) {
	t.Helper()
	if got != want {
		t.Errorf("%s: error %d, want %d", what, got, want)
	}
}

func wantPage(t *testing.T, what, got string, err api.Errno, want string) {
	t.Helper()
	if err != api.OK || got != want {
		t.Errorf("%s: error %d\n got %v\nwant %v", what, err, []byte(got), []byte(want))
	}
}

func wantNoPage(t *testing.T, what, got string, err, want api.Errno) {
	t.Helper()
	if got != "" || err != want {
		t.Errorf("%s: %v, error %d; want none, error %d", what, []byte(got), err, want)
	}
}

func needOf(l []api.Cell) int {
	need := 0
	for _, c := range l {
		need += 3 + len(c.Key) + len(c.Val)
	}
	return need
}

// wantHas asks every call that tells what a page has.
func wantHas(t *testing.T, p string, kind, level int, want ...api.Cell) {
	t.Helper()
	if !page.Right(p) {
		t.Errorf("Right(%v): false", []byte(p))
	}
	if page.Kind(p) != kind || page.Level(p) != level {
		t.Errorf("Kind, Level: %d, %d; want %d, %d", page.Kind(p), page.Level(p), kind, level)
	}
	if got := page.Cells(p); !slices.Equal(got, want) {
		t.Errorf("Cells: %q, want %q", got, want)
	}
	if got := page.Count(p); got != len(want) {
		t.Errorf("Count: %d, want %d", got, len(want))
	}
	room := 220 - needOf(want)
	if kind == page.Free {
		room = 0
	}
	if got := page.Room(p); got != room {
		t.Errorf("Room: %d, want %d", got, room)
	}
	for i, c := range want {
		if got, err := page.At(p, i); got != c || err != api.OK {
			t.Errorf("At(%d): %q, error %d; want %q", i, got, err, c)
		}
		if got, is := page.Find(p, c.Key); got != i || !is {
			t.Errorf("Find(%q): %d, %v; want %d, true", c.Key, got, is, i)
		}
	}
}

// Promise 5.1.

func TestExample(t *testing.T) {
	want := bytesOf("\x01\x00\x01\x08\x01\x01ab", 4)
	p, err := page.Make(page.Leaf, 0, []api.Cell{{Key: "a", Val: "b"}})
	wantPage(t, "Make", p, err, want)
	empty, err := page.New(page.Leaf, 0)
	wantErr(t, "New", err, api.OK)
	p, err = page.Insert(empty, cell("a", "b"))
	wantPage(t, "Insert", p, err, want)
}

func TestKinds(t *testing.T) {
	if page.Free != 0 || page.Leaf != 1 || page.Inner != 2 {
		t.Errorf("Free, Leaf, Inner: %d, %d, %d", page.Free, page.Leaf, page.Inner)
	}
}

func TestNewIsPackedWithoutCells(t *testing.T) {
	for _, a := range [][2]int{{0, 0}, {1, 0}, {2, 0}, {2, 1}, {2, 7}, {2, 254}, {2, 255}} {
		what := "New(" + strconv.Itoa(a[0]) + ", " + strconv.Itoa(a[1]) + ")"
		want := bytesOf(string([]byte{byte(a[0]), byte(a[1]), 0, 4}))
		p, err := page.New(a[0], a[1])
		wantPage(t, what, p, err, want)
		wantHas(t, p, a[0], a[1])
		p, err = page.Make(a[0], a[1], nil)
		wantPage(t, "Make as "+what, p, err, want)
		p, err = page.Make(a[0], a[1], []api.Cell{})
		wantPage(t, "Make of an empty list as "+what, p, err, want)
	}
}

// wrongHeads are kinds and levels that no page has.
func wrongHeads() [][2]int {
	return [][2]int{
		{-1, 0}, {3, 0}, {256, 0}, {257, 0}, {258, 0}, {math.MaxInt, 0}, {math.MinInt, 0},
		{2, -1}, {2, 256}, {2, 512}, {2, math.MaxInt}, {2, math.MinInt},
		{0, 1}, {0, 255}, {0, -1}, {0, 256}, {1, 1}, {1, 255}, {1, -1}, {1, 256},
		{-1, -1}, {3, 256}, {3, 1},
	}
}

func TestNewRefuses(t *testing.T) {
	for _, a := range wrongHeads() {
		what := "(" + strconv.Itoa(a[0]) + ", " + strconv.Itoa(a[1]) + ")"
		p, err := page.New(a[0], a[1])
		wantNoPage(t, "New"+what, p, err, api.ErrArg)
		p, err = page.Make(a[0], a[1], nil)
		wantNoPage(t, "Make"+what, p, err, api.ErrArg)
		p, err = page.Make(a[0], a[1], keyed(strings.Repeat("k", 17)))
		wantNoPage(t, "Make"+what+" of a long key", p, err, api.ErrArg)
	}
}

func TestMakeLaysOneByOne(t *testing.T) {
	p, err := page.Make(page.Inner, 9, []api.Cell{{Key: "", Val: "xy"}, {Key: "a", Val: ""}, {Key: "ab", Val: "z"}})
	want := bytesOf("\x02\x09\x03\x10\x00\x02xy\x01\x00a\x02\x01abz", 4, 8, 11)
	wantPage(t, "Make", p, err, want)
	wantHas(t, p, page.Inner, 9, cell("", "xy"), cell("a", ""), cell("ab", "z"))
}

func TestMakeTakesTheLongest(t *testing.T) {
	key, val := strings.Repeat("k", 16), strings.Repeat("v", 32)
	p := made(t, page.Leaf, 0, cell(key, val))
	wantPage(t, "the longest cell", p, api.OK, bytesOf("\x01\x00\x01\x36\x10\x20"+key+val, 4))
	wantHas(t, p, page.Leaf, 0, cell(key, val))
	p = made(t, page.Leaf, 0, cell("", ""))
	wantPage(t, "the shortest cell", p, api.OK, bytesOf("\x01\x00\x01\x06", 4))
	wantHas(t, p, page.Leaf, 0, cell("", ""))
}

func TestMakeFillsAllRoom(t *testing.T) {
	l := longs(51, 51, 51, 51, 16)
	p := made(t, page.Leaf, 0, l...)
	wantHas(t, p, page.Leaf, 0, l...)
	if page.Room(p) != 0 || p[3] != 224-5 {
		t.Errorf("Room, heap's end: %d, %d", page.Room(p), p[3])
	}
	p, err := page.Make(page.Leaf, 0, longs(51, 51, 51, 51, 17))
	wantNoPage(t, "a byte more", p, err, api.ErrFull)
	p, err = page.Make(page.Leaf, 0, append(l, cell("z", "")))
	wantNoPage(t, "a cell more", p, err, api.ErrFull)
}

func TestMakeOfTheMostCells(t *testing.T) {
	l := keyed("")
	for i := range 54 {
		l = append(l, cell(string([]byte{byte(i)}), ""))
	}
	p := made(t, page.Inner, 1, l...)
	wantHas(t, p, page.Inner, 1, l...)
	if page.Room(p) != 1 {
		t.Errorf("Room: %d, want 1", page.Room(p))
	}
}

func TestMakeRefuses(t *testing.T) {
	key, val := strings.Repeat("k", 17), strings.Repeat("v", 33)
	full := longs(51, 51, 51, 51, 16)
	for _, c := range []struct {
		what string
		kind int
		l    []api.Cell
		want api.Errno
	}{
		{"a key of 17 bytes", page.Leaf, []api.Cell{{Key: key}}, api.ErrKey},
		{"a value of 33 bytes", page.Leaf, []api.Cell{{Key: "a", Val: val}}, api.ErrValue},
		{"both too long", page.Inner, []api.Cell{{Key: key, Val: val}}, api.ErrKey},
		{"a much longer key", page.Leaf, keyed(strings.Repeat("k", 256)), api.ErrKey},
		{"a much longer value", page.Leaf, []api.Cell{{Val: strings.Repeat("v", 256)}}, api.ErrValue},
		{"a cell of Free", page.Free, keyed("a"), api.ErrForm},
		{"an empty cell of Free", page.Free, keyed(""), api.ErrForm},
		{"a long key of Free", page.Free, keyed(key), api.ErrKey},
		{"a long value of Free", page.Free, []api.Cell{{Val: val}}, api.ErrValue},
		{"keys that fall", page.Leaf, keyed("b", "a"), api.ErrForm},
		{"a key twice", page.Leaf, keyed("a", "a"), api.ErrForm},
		{"the empty key twice", page.Inner, keyed("", ""), api.ErrForm},
		{"a key's beginning behind it", page.Leaf, keyed("ab", "a"), api.ErrForm},
		{"high bytes that fall", page.Leaf, keyed("\xff", "\x7f"), api.ErrForm},
		{"keys that fall later", page.Leaf, keyed("a", "b", "c", "b"), api.ErrForm},
		{"a long key that falls", page.Leaf, keyed("z", key), api.ErrKey},
		{"a long value of a key that falls", page.Leaf, []api.Cell{{Key: "z"}, {Key: "a", Val: val}}, api.ErrValue},
		{"keys that fall ahead of a long key", page.Leaf, keyed("b", "a", key), api.ErrForm},
		{"a long value ahead of a long key", page.Leaf, []api.Cell{{Key: "a", Val: val}, {Key: key}}, api.ErrValue},
		{"a full page", page.Leaf, append(slices.Clone(full), cell("z", "")), api.ErrFull},
		{"a full page, ahead of a long key", page.Leaf, append(slices.Clone(full), cell("x", ""), cell(key, "")), api.ErrFull},
		{"a long key, of a full page", page.Leaf, append(slices.Clone(full), cell(key, "")), api.ErrKey},
		{"a key that falls, of a full page", page.Leaf, append(slices.Clone(full), cell("a", "")), api.ErrForm},
	} {
		p, err := page.Make(c.kind, 0, c.l)
		wantNoPage(t, "Make of "+c.what, p, err, c.want)
	}
}

func TestMakeLeavesItsList(t *testing.T) {
	l := []api.Cell{{Key: "a", Val: "1"}, {Key: "b", Val: "2"}}
	p := made(t, page.Leaf, 0, l...)
	if l[0] != cell("a", "1") || l[1] != cell("b", "2") {
		t.Errorf("the list was changed: %q", l)
	}
	l[0].Key = "x"
	wantHas(t, p, page.Leaf, 0, cell("a", "1"), cell("b", "2"))
	got := page.Cells(p)
	got[0].Key = "y"
	wantHas(t, p, page.Leaf, 0, cell("a", "1"), cell("b", "2"))
}

// noPages are bytes that are no page, one or more for each reason.
func noPages() map[string]string {
	two := bytesOf("\x01\x00\x02\x0c\x01\x01ax\x01\x01by", 4, 8)
	long := strings.Repeat("k", 33)
	return map[string]string{
		"no bytes":                            "",
		"one byte":                            "\x01",
		"four bytes":                          "\x01\x00\x00\x04",
		"a byte less":                         two[:223],
		"a byte more":                         two + "\x00",
		"a page twice":                        two + two,
		"noughts":                             bytesOf(""),
		"kind 3":                              turned(two, 0, 3),
		"kind 255":                            turned(two, 0, 255),
		"a Free one with level 1":             bytesOf("\x00\x01\x00\x04"),
		"a Leaf with level 1":                 turned(two, 1, 1),
		"a Leaf with level 255":               turned(two, 1, 255),
		"a Free one with cells":               turned(two, 0, 0),
		"a Free one with a cell":              bytesOf("\x00\x00\x01\x06", 4),
		"a heap that ends at 0":               bytesOf("\x01\x00\x00\x00"),
		"a heap that ends at 3":               bytesOf("\x01\x00\x00\x03"),
		"a Free one's heap that ends at 3":    bytesOf("\x00\x00\x00\x03"),
		"a heap that ends at 225":             bytesOf("\x01\x00\x00\xe1"),
		"a Free one's heap that ends at 225":  bytesOf("\x00\x00\x00\xe1"),
		"a heap that ends at 255":             bytesOf("\x02\x05\x00\xff"),
		"a heap that ends in the only slot":   bytesOf("\x01\x00\x01\xe0", 4),
		"a heap that ends in the second slot": turned(two, 3, 223),
		"more slots than there is room for":   bytesOf("\x01\x00\xdd\x04"),
		"255 cells":                           bytesOf("\x01\x00\xff\x04"),
		"a slot that is 0":                    bytesOf("\x01\x00\x01\x08\x01\x01ab", 0),
		"a slot that is 3":                    bytesOf("\x01\x00\x01\x07\x00\x01b", 3),
		"a slot at the heap's end":            bytesOf("\x01\x00\x01\x08\x01\x01ab", 8),
		"a slot a byte ahead of the end":      bytesOf("\x01\x00\x01\x08\x01\x01ab", 7),
		"a slot behind the heap":              bytesOf("\x01\x00\x01\x08\x01\x01ab", 100),
		"a slot that is the slot's own":       bytesOf("\x01\x00\x01\x08\x01\x01ab", 223),
		"a slot at the last byte but one":     bytesOf("\x01\x00\x01\xdf", 222),
		"a slot behind the page":              bytesOf("\x01\x00\x01\xdf", 224),
		"a slot of 255":                       bytesOf("\x01\x00\x01\xdf", 255),
		"no heap, a cell":                     bytesOf("\x01\x00\x01\x04", 4),
		"half of a cell's lengths":            bytesOf("\x01\x00\x01\x05", 4),
		"a key over the heap's end":           bytesOf("\x01\x00\x01\x08\x03\x00ab", 4),
		"a value over the heap's end":         bytesOf("\x01\x00\x01\x08\x00\x03ab", 4),
		"both over the heap's end":            bytesOf("\x01\x00\x01\x08\x01\x02ab", 4),
		"a second cell over the heap's end":   turned(two, 3, 11),
		"a key of 17 bytes":                   bytesOf("\x01\x00\x01\x64\x11\x00"+long, 4),
		"a key of 255 bytes":                  bytesOf("\x01\x00\x01\xdf\xff\x00"+long, 4),
		"a value of 33 bytes":                 bytesOf("\x01\x00\x01\x64\x00\x21"+long, 4),
		"a value of 255 bytes":                bytesOf("\x01\x00\x01\xdf\x00\xff"+long, 4),
		"keys that fall":                      bytesOf("\x01\x00\x02\x0c\x01\x01ax\x01\x01by", 8, 4),
		"a key twice":                         bytesOf("\x01\x00\x02\x0c\x01\x01ax\x01\x01ay", 4, 8),
		"a cell twice":                        bytesOf("\x01\x00\x02\x08\x01\x01ab", 4, 4),
		"the empty key twice":                 bytesOf("\x01\x00\x02\x08", 4, 6),
		"a third key that falls":              bytesOf("\x02\x01\x03\x0d\x01\x00a\x01\x00c\x01\x00b", 4, 7, 10),
		"a byte more than there is room for":  lapped(31, 31, 31, 31, 31, 0),
		"many more than there is room for":    lapped(32, 32, 32, 32, 32, 32),
	}
}

// lapped is a page whose cells lie over one another but for their lengths and keys: each
// one has a key of 8 bytes, and a value of so many.
func lapped(vals ...int) string {
	p := make([]byte, api.PageBytes)
	p[0], p[2] = page.Leaf, byte(len(vals))
	for i, val := range vals {
		start := 4 + 10*i
		p[start], p[start+1], p[start+2] = 8, byte(val), byte('a'+i)
		p[3] = max(p[3], byte(start+10+val))
		p[api.PageBytes-1-i] = byte(start)
	}
	return string(p)
}

func TestRightRefuses(t *testing.T) {
	for what, p := range noPages() {
		if page.Right(p) {
			t.Errorf("%s: Right", what)
		}
	}
}

func TestRightAtTheEdges(t *testing.T) {
	val := strings.Repeat("v", 32)
	for what, p := range map[string]string{
		"a Free one":                         bytesOf("\x00\x00\x00\x04"),
		"a Free one with a heap":             bytesOf("\x00\x00\x00\x09abcde"),
		"a Free one, all heap":               bytesOf("\x00\x00\x00\xe0"),
		"an Inner one with level 0":          bytesOf("\x02\x00\x00\x04"),
		"an Inner one with level 255":        bytesOf("\x02\xff\x00\x04"),
		"no cells, all heap":                 bytesOf("\x01\x00\x00\xe0"),
		"a cell, all heap":                   bytesOf("\x01\x00\x01\xdf", 4),
		"two cells, all heap":                bytesOf("\x01\x00\x02\xde\x00\x00\x01\x00a", 4, 6),
		"a cell at the heap's end":           bytesOf("\x01\x00\x01\xdf", 221),
		"a cell that just ends":              bytesOf("\x01\x00\x01\x08\x01\x01ab", 4),
		"an empty cell":                      bytesOf("\x01\x00\x01\x06", 4),
		"bytes that nobody uses":             bytesOf("\x01\x00\x01\x08\x01\x01abcdefghijk", 4),
		"a key and a value of the most":      bytesOf("\x01\x00\x01\x36\x10\x20"+strings.Repeat("k", 16)+val, 4),
		"cells that lie one over another":    bytesOf("\x01\x00\x02\x08\x02\x00\x00\x00", 6, 4),
		"a later cell ahead of the first":    bytesOf("\x01\x00\x02\x0c\x01\x01bx\x01\x01ay", 8, 4),
		"as much as there is room for":       lapped(31, 31, 31, 31, 30, 0),
		"keys of bytes above 127":            bytesOf("\x01\x00\x02\x0a\x01\x00\x7f\x01\x00\x80", 4, 7),
		"a key and one that goes on from it": bytesOf("\x01\x00\x02\x0b\x01\x00a\x02\x00a\x00", 4, 7),
	} {
		if !page.Right(p) {
			t.Errorf("%s: not Right", what)
		}
	}
	if got := page.Room(lapped(31, 31, 31, 31, 30, 0)); got != 0 {
		t.Errorf("Room of cells that lie one over another: %d, want 0", got)
	}
}

// Promise 5.2.

func TestAsksOfNoPage(t *testing.T) {
	for what, p := range noPages() {
		if page.Kind(p) != 0 || page.Level(p) != 0 || page.Count(p) != 0 || page.Room(p) != 0 {
			t.Errorf("%s: Kind, Level, Count, Room: %d, %d, %d, %d", what, page.Kind(p), page.Level(p), page.Count(p), page.Room(p))
		}
		if l := page.Cells(p); len(l) != 0 {
			t.Errorf("%s: Cells: %q", what, l)
		}
		for _, key := range []string{"", "a", "ax", "zz"} {
			if i, is := page.Find(p, key); i != 0 || is {
				t.Errorf("%s: Find(%q): %d, %v", what, key, i, is)
			}
		}
		for _, i := range []int{math.MinInt, -1, 0, 1, math.MaxInt} {
			c, err := page.At(p, i)
			wantErr(t, what+": At("+strconv.Itoa(i)+")", err, api.ErrForm)
			if c != cell("", "") {
				t.Errorf("%s: At(%d): %q", what, i, c)
			}
		}
	}
}

func TestNeed(t *testing.T) {
	for _, c := range []struct {
		c    api.Cell
		want int
	}{
		{cell("", ""), 3},
		{cell("a", ""), 4},
		{cell("", "bc"), 5},
		{cell("a", "bc"), 6},
		{cell(strings.Repeat("k", 16), strings.Repeat("v", 32)), 51},
		{cell(strings.Repeat("k", 1000), strings.Repeat("v", 2000)), 3003},
	} {
		if got := page.Need(c.c); got != c.want {
			t.Errorf("Need(%q): %d, want %d", c.c, got, c.want)
		}
	}
}

func TestRoomOfEachKind(t *testing.T) {
	for _, c := range []struct {
		p    string
		want int
	}{
		{made(t, page.Free, 0), 0},
		{bytesOf("\x00\x00\x00\x09abcde"), 0},
		{made(t, page.Leaf, 0), 220},
		{made(t, page.Inner, 3), 220},
		{made(t, page.Leaf, 0, cell("", "")), 217},
		{made(t, page.Inner, 3, cell("ab", "cde")), 212},
		{bytesOf("\x01\x00\x00\xe0"), 220}, // what nobody uses takes no room
	} {
		if got := page.Room(c.p); got != c.want {
			t.Errorf("Room: %d, want %d", got, c.want)
		}
	}
}

func TestFind(t *testing.T) {
	p := made(t, page.Leaf, 0, keyed("b", "bb", "d", "\xff")...)
	for _, c := range []struct {
		key string
		i   int
		is  bool
	}{
		{"", 0, false}, {"a", 0, false}, {"azzz", 0, false}, {"b", 0, true}, {"b\x00", 1, false},
		{"ba", 1, false}, {"bb", 1, true}, {"bbb", 2, false}, {"c", 2, false}, {"d", 2, true},
		{"d\x00", 3, false}, {"\x80", 3, false}, {"\xff", 3, true}, {"\xff\x00", 4, false},
		{strings.Repeat("c", 17), 2, false}, {strings.Repeat("\xff", 5000), 4, false},
	} {
		if i, is := page.Find(p, c.key); i != c.i || is != c.is {
			t.Errorf("Find(%q): %d, %v; want %d, %v", c.key, i, is, c.i, c.is)
		}
	}
}

func TestFindOfFewCells(t *testing.T) {
	for _, p := range []string{made(t, page.Free, 0), made(t, page.Leaf, 0), made(t, page.Inner, 4)} {
		for _, key := range []string{"", "a"} {
			if i, is := page.Find(p, key); i != 0 || is {
				t.Errorf("Find(%q) of no cells: %d, %v", key, i, is)
			}
		}
	}
	p := made(t, page.Inner, 1, cell("", "x"))
	if i, is := page.Find(p, ""); i != 0 || !is {
		t.Errorf("Find of the empty key: %d, %v", i, is)
	}
	if i, is := page.Find(p, "a"); i != 1 || is {
		t.Errorf("Find behind the empty key: %d, %v", i, is)
	}
}

func TestAt(t *testing.T) {
	l := []api.Cell{{Key: "a", Val: "1"}, {Key: "b"}, {Key: "c", Val: "333"}}
	for n := range len(l) + 1 {
		p := made(t, page.Leaf, 0, l[:n]...)
		wantHas(t, p, page.Leaf, 0, l[:n]...)
		for _, i := range []int{math.MinInt, -224, -1, n, n + 1, 223, 224, 255, 256, math.MaxInt} {
			c, err := page.At(p, i)
			wantErr(t, "At("+strconv.Itoa(i)+")", err, api.ErrNone)
			if c != cell("", "") {
				t.Errorf("At(%d): %q", i, c)
			}
		}
	}
	_, err := page.At(made(t, page.Free, 0), 0)
	wantErr(t, "At of a Free one", err, api.ErrNone)
}

// Promise 5.3.

func TestTurnsOfNoPage(t *testing.T) {
	wrong := noPages()
	wrong["a Free one"] = made(t, page.Free, 0)
	wrong["a Free one with a heap"] = bytesOf("\x00\x00\x00\x09abcde")
	key, val := strings.Repeat("k", 17), strings.Repeat("v", 33)
	for what, p := range wrong {
		for _, c := range []api.Cell{{Key: "a", Val: "b"}, {}, {Key: key}, {Val: val}} {
			got, err := page.Insert(p, c)
			wantNoPage(t, what+": Insert", got, err, api.ErrForm)
			got, err = page.Update(p, c)
			wantNoPage(t, what+": Update", got, err, api.ErrForm)
			got, err = page.Delete(p, c.Key)
			wantNoPage(t, what+": Delete", got, err, api.ErrForm)
		}
		a, b, k, err := page.Halves(p)
		wantErr(t, what+": Halves", err, api.ErrForm)
		if a != "" || b != "" || k != "" {
			t.Errorf("%s: Halves tells %v, %v, %q", what, []byte(a), []byte(b), k)
		}
	}
}

func TestTurnsRefuseWhatIsTooLong(t *testing.T) {
	key, val := strings.Repeat("k", 17), strings.Repeat("v", 33)
	for _, p := range []string{
		made(t, page.Leaf, 0),
		made(t, page.Inner, 1, keyed("a", strings.Repeat("k", 16))...),
		made(t, page.Leaf, 0, longs(51, 51, 51, 51, 16)...),
	} {
		for _, c := range []struct {
			c    api.Cell
			want api.Errno
		}{
			{cell(key, ""), api.ErrKey},
			{cell(key, val), api.ErrKey},
			{cell(strings.Repeat("k", 256), val), api.ErrKey},
			{cell("a", val), api.ErrValue},
			{cell("z", val), api.ErrValue},
			{cell("", strings.Repeat("v", 288)), api.ErrValue},
		} {
			got, err := page.Insert(p, c.c)
			wantNoPage(t, "Insert", got, err, c.want)
			got, err = page.Update(p, c.c)
			wantNoPage(t, "Update", got, err, c.want)
		}
		got, err := page.Delete(p, key)
		wantNoPage(t, "Delete of a key of 17 bytes", got, err, api.ErrNone)
	}
}

func TestInsertPutsItsSlotAmongTheOthers(t *testing.T) {
	p := made(t, page.Leaf, 0)
	for _, c := range []struct{ key, want string }{
		{"m", bytesOf("\x01\x00\x01\x08\x01\x01mM", 4)},
		{"z", bytesOf("\x01\x00\x02\x0c\x01\x01mM\x01\x01zZ", 4, 8)},
		{"a", bytesOf("\x01\x00\x03\x10\x01\x01mM\x01\x01zZ\x01\x01aA", 12, 4, 8)},
		{"n", bytesOf("\x01\x00\x04\x14\x01\x01mM\x01\x01zZ\x01\x01aA\x01\x01nN", 12, 4, 16, 8)},
	} {
		var err api.Errno
		p, err = page.Insert(p, cell(c.key, strings.ToUpper(c.key)))
		wantPage(t, "Insert("+c.key+")", p, err, c.want)
	}
	wantHas(t, p, page.Leaf, 0, cell("a", "A"), cell("m", "M"), cell("n", "N"), cell("z", "Z"))
}

func TestInsertOfTheEmptyAndTheLongest(t *testing.T) {
	longest := cell(strings.Repeat("k", 16), strings.Repeat("v", 32))
	p, err := page.Insert(made(t, page.Inner, 255), longest)
	wantErr(t, "Insert of the longest", err, api.OK)
	p, err = page.Insert(p, cell("", ""))
	wantErr(t, "Insert of the empty", err, api.OK)
	wantHas(t, p, page.Inner, 255, cell("", ""), longest)
}

func TestInsertRefuses(t *testing.T) {
	p := made(t, page.Leaf, 0, keyed("", "b", "c")...)
	for _, key := range []string{"", "b", "c"} {
		got, err := page.Insert(p, cell(key, "x"))
		wantNoPage(t, "Insert("+key+")", got, err, api.ErrThere)
	}
	full := made(t, page.Leaf, 0, longs(51, 51, 51, 51, 16)...)
	got, err := page.Insert(full, cell("z", ""))
	wantNoPage(t, "Insert into a full page", got, err, api.ErrFull)
	got, err = page.Insert(full, cell("", ""))
	wantNoPage(t, "Insert of the empty cell into a full page", got, err, api.ErrFull)
	again := longs(51)[0]
	got, err = page.Insert(full, again)
	wantNoPage(t, "Insert of a key that is there into a full page", got, err, api.ErrThere)
}

func TestInsertOfWhatJustFits(t *testing.T) {
	l := longs(51, 51, 51, 51)
	p := made(t, page.Leaf, 0, l...)
	for need := 4; need <= 16; need++ {
		c := long('e', need)
		got, err := page.Insert(p, c)
		wantErr(t, "Insert of "+strconv.Itoa(need), err, api.OK)
		wantHas(t, got, page.Leaf, 0, append(slices.Clone(l), c)...)
	}
	got, err := page.Insert(p, long('e', 17))
	wantNoPage(t, "Insert of 17", got, err, api.ErrFull)
}

// holed is a page with the cells b to d, of 51 bytes each, whose heap has a's bytes, too,
// which was dropped; its heap ends at 204, and it has 3 cells.
func holed(t *testing.T) (string, []api.Cell) {
	t.Helper()
	l := longs(51, 51, 51, 51)
	p, err := page.Delete(made(t, page.Leaf, 0, l...), l[0].Key)
	wantErr(t, "Delete", err, api.OK)
	if p[2] != 3 || p[3] != 204 {
		t.Fatalf("cells, heap's end: %d, %d", p[2], p[3])
	}
	return p, l[1:]
}

func TestInsertAtJust224DoesNotPack(t *testing.T) {
	p, l := holed(t)
	c := long('e', 17) // 204 + 3 + 17 is 224
	got, err := page.Insert(p, c)
	want := []byte(p)
	want[2], want[3] = 4, 220
	want[204], want[205] = 1, 13
	copy(want[206:], c.Key+c.Val)
	want[220] = 204
	wantPage(t, "Insert", got, err, string(want))
	wantHas(t, got, page.Leaf, 0, append(slices.Clone(l), c)...)
}

func TestInsertAbove224PacksFirst(t *testing.T) {
	p, l := holed(t)
	for need := 18; need <= 51; need++ {
		c := long('e', need)
		got, err := page.Insert(p, c)
		wantPage(t, "Insert of "+strconv.Itoa(need), got, err, made(t, page.Leaf, 0, append(slices.Clone(l), c)...))
	}
	// The cell is laid behind the packed ones, whatever its place is.
	c := long('a', 51)
	got, err := page.Insert(p, c)
	want := []byte(made(t, page.Leaf, 0, append(slices.Clone(l), long('e', 51))...))
	copy(want[154:], "\x10\x20"+c.Key+c.Val)
	copy(want[220:], []byte{104, 54, 4, 154})
	wantPage(t, "Insert ahead of all", got, err, string(want))
}

func TestPackingKeepsKindAndLevelAndClearsTheRest(t *testing.T) {
	p := []byte(strings.Repeat("\xee", api.PageBytes))
	copy(p, "\x02\xc8\x01\xdf") // level 200, one cell, all heap
	copy(p[100:], "\x01\x01ab")
	p[223] = 100
	got, err := page.Insert(string(p), cell("A", "B"))
	wantPage(t, "Insert", got, err, bytesOf("\x02\xc8\x02\x0c\x01\x01ab\x01\x01AB", 8, 4))
}

func TestLayingLeavesWhatNobodyUses(t *testing.T) {
	p := []byte(strings.Repeat("\xee", api.PageBytes))
	copy(p, "\x01\x00\x01\x70")
	copy(p[100:], "\x01\x01ab")
	p[223] = 100
	want := slices.Clone(p)
	copy(want, "\x01\x00\x02\x75\x01")
	want[4] = 0xee
	copy(want[112:], "\x01\x02ABC")
	want[223], want[222] = 112, 100
	got, err := page.Insert(string(p), cell("A", "BC"))
	wantPage(t, "Insert", got, err, string(want))
	want = slices.Clone(p)
	want[2], want[223] = 0, 0
	got, err = page.Delete(string(p), "a")
	wantPage(t, "Delete", got, err, string(want))
}

func TestDeleteDropsASlotAlone(t *testing.T) {
	first := "\x01\x01aA\x01\x01bB\x01\x01cC"
	p := made(t, page.Leaf, 0, cell("a", "A"), cell("b", "B"), cell("c", "C"))
	for _, c := range []struct{ key, want string }{
		{"a", bytesOf("\x01\x00\x02\x10"+first, 8, 12)},
		{"b", bytesOf("\x01\x00\x02\x10"+first, 4, 12)},
		{"c", bytesOf("\x01\x00\x02\x10"+first, 4, 8)},
	} {
		got, err := page.Delete(p, c.key)
		wantPage(t, "Delete("+c.key+")", got, err, c.want)
	}
	for _, key := range []string{"b", "c", "a"} {
		var err api.Errno
		p, err = page.Delete(p, key)
		wantErr(t, "Delete("+key+")", err, api.OK)
	}
	wantPage(t, "a page whose cells are all dropped", p, api.OK, bytesOf("\x01\x00\x00\x10"+first))
	wantHas(t, p, page.Leaf, 0)
}

func TestDeleteRefuses(t *testing.T) {
	for _, p := range []string{made(t, page.Leaf, 0), made(t, page.Inner, 2, keyed("b", "d")...)} {
		for _, key := range []string{"", "a", "c", "dd", "z", "b\x00"} {
			got, err := page.Delete(p, key)
			wantNoPage(t, "Delete("+key+")", got, err, api.ErrNone)
		}
	}
	p, err := page.Delete(made(t, page.Inner, 2, keyed("", "a")...), "")
	wantErr(t, "Delete of the empty key", err, api.OK)
	wantHas(t, p, page.Inner, 2, cell("a", ""))
}

func TestUpdateDropsAndLays(t *testing.T) {
	p := made(t, page.Leaf, 0, cell("a", "A"), cell("b", "B"), cell("c", "C"))
	first := "\x01\x01aA\x01\x01bB\x01\x01cC"
	for _, c := range []struct{ key, want string }{
		{"a", bytesOf("\x01\x00\x03\x15"+first+"\x01\x02axy", 16, 8, 12)},
		{"b", bytesOf("\x01\x00\x03\x15"+first+"\x01\x02bxy", 4, 16, 12)},
		{"c", bytesOf("\x01\x00\x03\x15"+first+"\x01\x02cxy", 4, 8, 16)},
	} {
		got, err := page.Update(p, cell(c.key, "xy"))
		wantPage(t, "Update("+c.key+")", got, err, c.want)
	}
	got, err := page.Update(p, cell("b", "B")) // the same value is laid anew as well
	wantPage(t, "Update to the same", got, err, bytesOf("\x01\x00\x03\x14"+first+"\x01\x01bB", 4, 16, 12))
	got, err = page.Update(p, cell("b", ""))
	wantPage(t, "Update to no value", got, err, bytesOf("\x01\x00\x03\x13"+first+"\x01\x00b", 4, 16, 12))
}

func TestUpdateRefuses(t *testing.T) {
	p := made(t, page.Leaf, 0, keyed("b", "d")...)
	for _, key := range []string{"", "a", "c", "e", "b\x00"} {
		got, err := page.Update(p, cell(key, "x"))
		wantNoPage(t, "Update("+key+")", got, err, api.ErrNone)
	}
	full := made(t, page.Leaf, 0, longs(51, 51, 51, 51, 16)...)
	got, err := page.Update(full, cell("z", "x"))
	wantNoPage(t, "Update of no cell in a full page", got, err, api.ErrNone)
	got, err = page.Update(full, cell("e", strings.Repeat("w", 13)))
	wantNoPage(t, "Update that needs a byte more", got, err, api.ErrFull)
}

func TestUpdateWithRoomOnlyBehindDropping(t *testing.T) {
	l := longs(51, 51, 51, 51, 16)
	p := made(t, page.Leaf, 0, l...)
	for size := range 13 {
		c := cell("e", strings.Repeat("w", size))
		got, err := page.Update(p, c)
		wantPage(t, "Update of the last", got, err, made(t, page.Leaf, 0, append(slices.Clone(l[:4]), c)...))
	}
	c := cell(l[1].Key, strings.Repeat("w", 32))
	got, err := page.Update(p, c)
	wantHas(t, got, page.Leaf, 0, l[0], c, l[2], l[3], l[4])
	want := []byte(made(t, page.Leaf, 0, l[0], l[2], l[3], l[4]))
	want[2], want[3] = 5, 219
	copy(want[169:], "\x10\x20"+c.Key+c.Val)
	copy(want[219:], []byte{154, 104, 54, 169, 4})
	wantPage(t, "Update of the second", got, err, string(want))
}

func TestUpdateCountsTheCellsBehindDropping(t *testing.T) {
	l := longs(51, 51, 51, 47, 4)
	p, err := page.Delete(made(t, page.Leaf, 0, l...), l[3].Key)
	wantErr(t, "Delete", err, api.OK)
	if p[2] != 4 || p[3] != 203 {
		t.Fatalf("cells, heap's end: %d, %d", p[2], p[3])
	}
	c := long('e', 18) // 203, the other three cells and 18 are 224
	got, err := page.Update(p, c)
	want := []byte(p)
	want[3], want[220] = 220, 203
	copy(want[203:], "\x01\x0e"+c.Key+c.Val)
	wantPage(t, "Update to just 224", got, err, string(want))
	c = long('e', 19)
	got, err = page.Update(p, c)
	wantPage(t, "Update above 224", got, err, made(t, page.Leaf, 0, l[0], l[1], l[2], c))
}

func TestTurnsLeaveTheOldPage(t *testing.T) {
	l := []api.Cell{{Key: "a", Val: "1"}, {Key: "c", Val: "3"}}
	p := made(t, page.Leaf, 0, l...)
	old := strings.Clone(p)
	page.Insert(p, cell("b", "2"))
	page.Update(p, cell("a", "x"))
	page.Delete(p, "c")
	page.Halves(p)
	wantPage(t, "the old page", p, api.OK, old)
}

// Promise 5.4.

func TestHalves(t *testing.T) {
	for _, c := range []struct {
		what  string
		needs []int
		first int
	}{
		{"two alike", []int{10, 10}, 1},
		{"two, the first greater", []int{51, 4}, 1},
		{"two, the second greater", []int{4, 51}, 1},
		{"three alike", []int{10, 10, 10}, 1},
		{"four alike", []int{10, 10, 10, 10}, 2},
		{"five alike", []int{10, 10, 10, 10, 10}, 2},
		{"a first one greater than half", []int{51, 4, 4, 4}, 1},
		{"a last one greater than half", []int{4, 4, 4, 51}, 3},
		{"just half", []int{10, 5, 5, 10}, 2},
		{"just half, the first alone", []int{20, 10, 10}, 1},
		{"just half, all but the last", []int{10, 10, 20}, 2},
		{"a byte more than half", []int{10, 6, 14}, 1},
		{"half a byte more than half", []int{10, 6, 15}, 1},
		{"a byte less than half", []int{10, 5, 17}, 2},
		{"half a byte less than half", []int{10, 5, 16}, 2},
		{"a great one in the middle", []int{10, 40, 10}, 1},
		{"a full page", []int{51, 51, 51, 51, 16}, 2},
	} {
		l := longs(c.needs...)
		for _, head := range [][2]int{{page.Leaf, 0}, {page.Inner, 0}, {page.Inner, 255}} {
			p := made(t, head[0], head[1], l...)
			a, b, key, err := page.Halves(p)
			wantPage(t, c.what+": the first", a, err, made(t, head[0], head[1], l[:c.first]...))
			wantPage(t, c.what+": the second", b, err, made(t, head[0], head[1], l[c.first:]...))
			if key != l[c.first].Key {
				t.Errorf("%s: key %q, want %q", c.what, key, l[c.first].Key)
			}
		}
	}
}

func TestHalvesArePacked(t *testing.T) {
	p, l := holed(t)
	a, b, key, err := page.Halves(p)
	wantPage(t, "the first", a, err, made(t, page.Leaf, 0, l[0]))
	wantPage(t, "the second", b, err, made(t, page.Leaf, 0, l[1], l[2]))
	if key != l[1].Key {
		t.Errorf("key %q, want %q", key, l[1].Key)
	}
	a, b, key, err = page.Halves(bytesOf("\x02\x07\x02\x20zz\x01\x01bBzz\x00\x01A", 12, 6))
	wantPage(t, "the first", a, err, bytesOf("\x02\x07\x01\x07\x00\x01A", 4))
	wantPage(t, "the second", b, err, bytesOf("\x02\x07\x01\x08\x01\x01bB", 4))
	if key != "b" {
		t.Errorf("key %q, want b", key)
	}
}

func TestHalvesOfLessThanTwo(t *testing.T) {
	for _, p := range []string{
		made(t, page.Leaf, 0), made(t, page.Inner, 1),
		made(t, page.Leaf, 0, cell("a", "b")), made(t, page.Inner, 1, cell("", "")),
	} {
		a, b, key, err := page.Halves(p)
		wantErr(t, "Halves", err, api.ErrShort)
		if a != "" || b != "" || key != "" {
			t.Errorf("Halves tells %v, %v, %q", []byte(a), []byte(b), key)
		}
	}
}

// Promise 5.5, and the others at chance.

// plain is a page as the document tells it: bytes, and where its cells begin, in order.
type plain struct {
	kind, level, end int
	starts           []int
	body             [api.PageBytes]byte
}

func plainNew(kind, level int) *plain { return &plain{kind: kind, level: level, end: 4} }

func (q *plain) bytes() string {
	b := q.body
	b[0], b[1], b[2], b[3] = byte(q.kind), byte(q.level), byte(len(q.starts)), byte(q.end)
	for i, s := range q.starts {
		b[223-i] = byte(s)
	}
	return string(b[:])
}

func (q *plain) cells() []api.Cell {
	var l []api.Cell
	for _, s := range q.starts {
		k, v := int(q.body[s]), int(q.body[s+1])
		l = append(l, cell(string(q.body[s+2:s+2+k]), string(q.body[s+2+k:s+2+k+v])))
	}
	return l
}

func (q *plain) place(key string) (int, bool) {
	for i, c := range q.cells() {
		if c.Key >= key {
			return i, c.Key == key
		}
	}
	return len(q.starts), false
}

func (q *plain) lay(i int, c api.Cell) {
	if q.end+len(q.starts)+3+len(c.Key)+len(c.Val) > 224 {
		l := q.cells()
		*q = *plainNew(q.kind, q.level)
		for j, o := range l {
			q.lay(j, o)
		}
	}
	text := string([]byte{byte(len(c.Key)), byte(len(c.Val))}) + c.Key + c.Val
	copy(q.body[q.end:], text)
	q.starts = slices.Insert(q.starts, i, q.end)
	q.end += len(text)
}

func (q *plain) drop(i int) {
	q.starts = slices.Delete(q.starts, i, i+1)
	q.body[223-len(q.starts)] = 0
}

func (q *plain) room() int { return 220 - needOf(q.cells()) }

func (q *plain) insert(c api.Cell) api.Errno {
	i, is := q.place(c.Key)
	if is {
		return api.ErrThere
	}
	if page.Need(c) > q.room() {
		return api.ErrFull
	}
	q.lay(i, c)
	return api.OK
}

func (q *plain) delete(key string) api.Errno {
	i, is := q.place(key)
	if !is {
		return api.ErrNone
	}
	q.drop(i)
	return api.OK
}

func (q *plain) update(c api.Cell) api.Errno {
	i, is := q.place(c.Key)
	if !is {
		return api.ErrNone
	}
	if page.Need(c) > q.room()+page.Need(q.cells()[i]) {
		return api.ErrFull
	}
	q.drop(i)
	q.lay(i, c)
	return api.OK
}

// plainRight is the document's words on which bytes are a page, one by one.
func plainRight(p string) bool {
	if len(p) != 224 || p[0] > 2 || p[1] != 0 && p[0] != 2 || p[0] == 0 && p[2] != 0 {
		return false
	}
	n, end := int(p[2]), int(p[3])
	if end < 4 || end > 224-n {
		return false
	}
	need := 0
	var keys []string
	for i := range n {
		s := int(p[223-i])
		if s < 4 || s+2 > end {
			return false
		}
		k, v := int(p[s]), int(p[s+1])
		if s+2+k+v > end || k > 16 || v > 32 {
			return false
		}
		keys = append(keys, p[s+2:s+2+k])
		need += 3 + k + v
	}
	for i := 1; i < n; i++ {
		if keys[i-1] >= keys[i] {
			return false
		}
	}
	return need <= 220
}

func anyText(r *rand.Rand, most int) string {
	b := make([]byte, r.Intn(most+1))
	for i := range b {
		b[i] = byte(r.Intn(4)) * 85
	}
	return string(b)
}

func anyCell(r *rand.Rand, most int) api.Cell {
	return cell(anyText(r, min(most, 3)), anyText(r, min(most, 32)))
}

// anyPlain is a page whose cells lie anyhow in a heap of any bytes; also over one another.
func anyPlain(r *rand.Rand) *plain {
	q := plainNew(1+r.Intn(2), 0)
	if q.kind == page.Inner {
		q.level = r.Intn(256)
	}
	for i := 4; i < 224; i++ {
		q.body[i] = byte(r.Intn(5))
	}
	q.end = 4 + r.Intn(221)
	for range r.Intn(12) {
		s := 4 + r.Intn(220)
		if s+2 > q.end || s+2+int(q.body[s])+int(q.body[s+1]) > q.end || q.end+len(q.starts)+1 > 224 {
			continue
		}
		key := string(q.body[s+2 : s+2+int(q.body[s])])
		if i, is := q.place(key); !is {
			q.starts = slices.Insert(q.starts, i, s)
		}
	}
	return q
}

func wantSame(t *testing.T, q *plain, p string) {
	t.Helper()
	wantPage(t, "the page", p, api.OK, q.bytes())
	wantHas(t, p, q.kind, q.level, q.cells()...)
}

// step does one thing with both pages, and answers what the page is then.
func step(t *testing.T, r *rand.Rand, q *plain, p string, c api.Cell) string {
	t.Helper()
	var got string
	var err, want api.Errno
	switch r.Intn(5) {
	case 0, 1:
		got, err = page.Insert(p, c)
		want = q.insert(c)
	case 2, 3:
		got, err = page.Update(p, c)
		want = q.update(c)
	default:
		got, err = page.Delete(p, c.Key)
		want = q.delete(c.Key)
	}
	wantErr(t, "a step", err, want)
	if want != api.OK {
		wantNoPage(t, "a step that is refused", got, err, want)
		return p
	}
	return got
}

func TestManyStepsAsAPlainPage(t *testing.T) {
	r := rand.New(rand.NewSource(5))
	for round := range 200 {
		q := plainNew(page.Leaf, 0)
		p := made(t, page.Leaf, 0)
		for range 100 {
			p = step(t, r, q, p, anyCell(r, round%40))
			wantSame(t, q, p)
			if t.Failed() {
				return
			}
		}
	}
}

func TestManyStepsOnAnyPage(t *testing.T) {
	r := rand.New(rand.NewSource(6))
	for range 2000 {
		q := anyPlain(r)
		p := q.bytes()
		for range 10 {
			wantSame(t, q, p)
			p = step(t, r, q, p, anyCell(r, 20))
			if t.Failed() {
				return
			}
		}
	}
}

// TestManyStepsAsAList asks what a page has, however its bytes lie, of a rising list.
func TestManyStepsAsAList(t *testing.T) {
	r := rand.New(rand.NewSource(7))
	for range 200 {
		p := made(t, page.Inner, 3)
		var l []api.Cell
		for range 100 {
			c := anyCell(r, 30)
			i, is := slices.BinarySearchFunc(l, c.Key, func(o api.Cell, key string) int { return strings.Compare(o.Key, key) })
			if at, there := page.Find(p, c.Key); at != i || there != is {
				t.Fatalf("Find(%q): %d, %v; want %d, %v", c.Key, at, there, i, is)
			}
			next := slices.Clone(l)
			turn := page.Insert
			switch {
			case !is:
				next = slices.Insert(next, i, c)
			case r.Intn(2) == 0:
				next[i] = c
				turn = page.Update
			default:
				next = slices.Delete(next, i, i+1)
				turn = func(p string, c api.Cell) (string, api.Errno) { return page.Delete(p, c.Key) }
			}
			got, err := turn(p, c)
			if needOf(next) > 220 {
				wantNoPage(t, "a turn", got, err, api.ErrFull)
				continue
			}
			wantErr(t, "a turn", err, api.OK)
			p, l = got, next
			wantHas(t, p, page.Inner, 3, l...)
			wantHalves(t, p, l)
			if t.Failed() {
				return
			}
		}
	}
}

// wantHalves looks for the greatest first half, as the document says it.
func wantHalves(t *testing.T, p string, l []api.Cell) {
	t.Helper()
	a, b, key, err := page.Halves(p)
	if len(l) < 2 {
		wantErr(t, "Halves", err, api.ErrShort)
		return
	}
	many := 1
	for n := 2; n < len(l); n++ {
		if float64(needOf(l[:n])) <= float64(needOf(l))/2 {
			many = n
		}
	}
	wantPage(t, "Halves: the first", a, err, made(t, page.Kind(p), page.Level(p), l[:many]...))
	wantPage(t, "Halves: the second", b, err, made(t, page.Kind(p), page.Level(p), l[many:]...))
	if key != l[many].Key {
		t.Errorf("Halves: key %q, want %q", key, l[many].Key)
	}
}

func TestRightOfAnyBytes(t *testing.T) {
	r := rand.New(rand.NewSource(8))
	rights := 0
	for range 40000 {
		b := []byte(anyPlain(r).bytes())
		for range r.Intn(4) {
			at := []int{r.Intn(4), r.Intn(224), 223 - r.Intn(4)}[r.Intn(3)]
			b[at] = byte(r.Intn(256) >> r.Intn(8))
		}
		p := string(b)
		want := plainRight(p)
		if page.Right(p) != want {
			t.Fatalf("Right(%v): %v", b, !want)
		}
		if want {
			rights++
		}
		askAll(p)
	}
	if rights < 10000 || rights > 38000 {
		t.Errorf("%d pages of 40000: the test asks too little", rights)
	}
}

// askAll does all that can be done with bytes, so that what panics is found.
func askAll(p string) {
	page.Cells(p)
	page.Find(p, "\x01")
	page.At(p, 0)
	page.Insert(p, cell("\x01\x02", strings.Repeat("v", 32)))
	page.Update(p, cell("", strings.Repeat("v", 32)))
	page.Delete(p, "\x01")
	page.Halves(p)
}

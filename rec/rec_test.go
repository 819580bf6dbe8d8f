package rec_test

import (
	"math"
	"math/rand"
	"reflect"
	"slices"
	"strings"
	"testing"

	"gharry/api"
	"gharry/rec"
)

const (
	head   = 6 // bytes of a frame ahead of the record's
	max2   = 1<<16 - 1
	max6   = 1<<48 - 1
	shapes = 17 // images that have room: 2 and 17 times 228 come to 3878 bytes
)

// column is a part of a record, as the document's table has it: a number of so many
// bytes, or a text of at most so many.
type column struct {
	name        string
	width, most int
}

var (
	txn    = column{name: "Txn", width: 6}
	prev   = column{name: "Prev", width: 6}
	next   = column{name: "Next", width: 6}
	pg     = column{name: "Page", width: 2}
	act    = column{name: "Act", width: 1}
	epoch  = column{name: "Epoch", width: 4}
	node   = column{name: "Node", width: 1}
	key    = column{name: "Key", most: 16}
	oldVal = column{name: "Old", most: 32}
	newVal = column{name: "New", most: 32}
)

func isKind(kind int) bool { return 1 <= kind && kind <= 10 }

// row is the document's row of a kind, but for its lists (of kinds 1, 2 and 9) and for
// what stands behind the Act of RecUndo.
func row(kind int) []column {
	switch kind {
	case api.RecInsert:
		return []column{txn, prev, pg, key, newVal}
	case api.RecDelete:
		return []column{txn, prev, pg, key, oldVal}
	case api.RecUpdate:
		return []column{txn, prev, pg, key, oldVal, newVal}
	case api.RecUndo:
		return []column{txn, prev, next, act}
	case api.RecCommit, api.RecEnd:
		return []column{txn, prev}
	case api.RecEpoch:
		return []column{epoch, node}
	}
	return nil
}

// behindAct is what RecUndo has behind its Act: as that kind, without Txn and Prev;
// another Act has both values.
func behindAct(a int) []column {
	if a < api.RecInsert || a > api.RecUpdate {
		a = api.RecUpdate
	}
	return row(a)[2:]
}

func rowOf(r api.Rec) []column {
	if r.Kind == api.RecUndo {
		return slices.Concat(row(r.Kind), behindAct(r.Act))
	}
	return row(r.Kind)
}

func num(r *api.Rec, c column) *int {
	switch c {
	case txn:
		return &r.Txn
	case prev:
		return &r.Prev
	case next:
		return &r.Next
	case pg:
		return &r.Page
	case act:
		return &r.Act
	case epoch:
		return &r.Epoch
	}
	return &r.Node
}

func text(r *api.Rec, c column) *string {
	switch c {
	case key:
		return &r.Key
	case oldVal:
		return &r.Old
	}
	return &r.New
}

// be is a number's bytes by hand, whatever the number is.
func be(n, width int) string {
	var b []byte
	for i := range width {
		b = append(b, byte(n>>(8*(width-1-i))))
	}
	return string(b)
}

func laid(t string) string { return be(len(t), 2) + t }

// sumOf is the document's sum (chapter 2), bit by bit.
func sumOf(s string) int {
	register := uint32(math.MaxUint32)
	for i := range len(s) {
		register ^= uint32(s[i])
		for range 8 {
			out := register & 1
			register >>= 1
			if out == 1 {
				register ^= 0x82f63b78
			}
		}
	}
	return int(^register)
}

func framed(body string) string { return be(len(body), 2) + be(sumOf(body), 4) + body }

// cleaned is r with what its row names alone.
func cleaned(r api.Rec) api.Rec {
	c := api.Rec{Kind: r.Kind}
	for _, col := range rowOf(r) {
		if col.width > 0 {
			*num(&c, col) = *num(&r, col)
		} else {
			*text(&c, col) = *text(&r, col)
		}
	}
	if r.Kind == api.RecFull || r.Kind == api.RecShape {
		c.Images = r.Images
	}
	if r.Kind == api.RecCheck {
		c.Table = r.Table
	}
	return c
}

// refused are the errors that are due, each one by itself; framedBy asks them in the
// document's order.
func refused(r api.Rec) map[api.Errno]bool {
	due := map[api.Errno]bool{}
	due[api.ErrArg] = !isKind(r.Kind)
	due[api.ErrForm] = r.Kind == api.RecFull && len(r.Images) != 1 || r.Kind == api.RecUndo && (r.Act < 3 || r.Act > 5)
	for _, im := range r.Images {
		due[api.ErrForm] = due[api.ErrForm] || len(im.Text) != 224
		due[api.ErrRange] = due[api.ErrRange] || !fits(im.Page, 2)
	}
	due[api.ErrKey] = len(r.Key) > 16
	due[api.ErrValue] = len(r.Old) > 32 || len(r.New) > 32
	for _, a := range r.Table {
		due[api.ErrRange] = due[api.ErrRange] || !fits(a.Txn, 6) || !fits(a.Last, 6)
	}
	due[api.ErrRange] = due[api.ErrRange] || len(r.Images) > 255 || len(r.Table) > 255
	for _, col := range rowOf(r) {
		due[api.ErrRange] = due[api.ErrRange] || col.width > 0 && !fits(*num(&r, col), col.width)
	}
	due[api.ErrLong] = len(bytesOf(r)) > 4096
	return due
}

func fits(n, width int) bool { return 0 <= n && n < 1<<(8*width) }

// bytesOf is a clean record's bytes, without asking whether it may have them.
func bytesOf(r api.Rec) string {
	s := be(r.Kind, 1)
	for _, col := range rowOf(r) {
		if col.width > 0 {
			s += be(*num(&r, col), col.width)
		} else {
			s += laid(*text(&r, col))
		}
	}
	if r.Kind == api.RecFull || r.Kind == api.RecShape {
		s += be(len(r.Images), 1)
		for _, im := range r.Images {
			s += be(im.Page, 2) + laid(im.Text)
		}
	}
	if r.Kind == api.RecCheck {
		s += be(len(r.Table), 1)
		for _, a := range r.Table {
			s += be(a.Txn, 6) + be(a.Last, 6)
		}
	}
	return s
}

// framedBy is what the document says of Frame.
func framedBy(r api.Rec) (string, api.Errno) {
	r = cleaned(r)
	due := refused(r)
	for _, err := range []api.Errno{api.ErrArg, api.ErrForm, api.ErrKey, api.ErrValue, api.ErrRange, api.ErrLong} {
		if due[err] {
			return "", err
		}
	}
	return framed(bytesOf(r)), api.OK
}

// cursor reads by chapter 1's words: behind the first error nothing.
type cursor struct {
	s   string
	err api.Errno
}

func (c *cursor) bytes(n int) string {
	if c.err == api.OK && n > len(c.s) {
		c.err = api.ErrShort
	}
	if c.err != api.OK {
		return ""
	}
	b := c.s[:n]
	c.s = c.s[n:]
	return b
}

func (c *cursor) num(width int) int {
	n := 0
	b := c.bytes(width)
	for i := range len(b) {
		n = n*256 + int(b[i])
	}
	return n
}

func (c *cursor) text(most int) string {
	n := c.num(2)
	if c.err == api.OK && n > most {
		c.err = api.ErrLong
	}
	return c.bytes(n)
}

func (c *cursor) columns(r *api.Rec, cols []column) {
	for _, col := range cols {
		if col.width > 0 {
			*num(r, col) = c.num(col.width)
		} else {
			*text(r, col) = c.text(col.most)
		}
	}
}

// readBy is what the document says of Of.
func readBy(s string) (api.Rec, api.Errno) {
	c := &cursor{s: s}
	r := api.Rec{Kind: c.num(1)}
	c.columns(&r, row(r.Kind))
	if r.Kind == api.RecUndo {
		c.columns(&r, behindAct(r.Act))
	}
	if r.Kind == api.RecFull || r.Kind == api.RecShape {
		for range c.num(1) {
			page := c.num(2)
			r.Images = append(r.Images, api.Image{Page: page, Text: c.text(224)})
		}
	}
	if r.Kind == api.RecCheck {
		for range c.num(1) {
			id := c.num(6)
			r.Table = append(r.Table, api.Active{Txn: id, Last: c.num(6)})
		}
	}
	if c.err != api.OK {
		return api.Rec{}, c.err
	}
	if f, err := framedBy(r); err != api.OK || len(c.s) > 0 || f[head:] != s {
		return api.Rec{}, api.ErrForm
	}
	return r, api.OK
}

// openedBy is what the document says of Open.
func openedBy(s string, at int) (api.Rec, int, api.Errno) {
	if at < 0 || at > len(s) {
		return api.Rec{}, 0, api.ErrRange
	}
	s = s[at:]
	if len(s) < head {
		return api.Rec{}, 0, api.ErrShort
	}
	n := int(s[0])*256 + int(s[1])
	if n == 0 || n > 4096 {
		return api.Rec{}, 0, api.ErrForm
	}
	if len(s) < head+n {
		return api.Rec{}, 0, api.ErrShort
	}
	body := s[head : head+n]
	if be(sumOf(body), 4) != s[2:head] {
		return api.Rec{}, 0, api.ErrSum
	}
	r, err := readBy(body)
	if err != api.OK {
		return api.Rec{}, 0, err
	}
	return r, head + n, api.OK
}

// same tells whether two records are one: lists that are nil and empty are.
func same(a, b api.Rec) bool {
	if !slices.Equal(a.Images, b.Images) || !slices.Equal(a.Table, b.Table) {
		return false
	}
	a.Images, b.Images, a.Table, b.Table = nil, nil, nil, nil
	return reflect.DeepEqual(a, b)
}

// image is a page's text that is unlike that of another seed (of 256).
func image(seed int) string {
	b := make([]byte, 224)
	for i := range b {
		b[i] = byte(seed*37 + i*3)
	}
	return string(b)
}

func images(many int) []api.Image {
	var l []api.Image
	for i := range many {
		l = append(l, api.Image{Page: i + 1, Text: image(i)})
	}
	return l
}

func table(many int) []api.Active {
	var l []api.Active
	for i := range many {
		l = append(l, api.Active{Txn: i + 1, Last: 1000 + i})
	}
	return l
}

// full has something in each field, so that what a kind has not is to be seen.
func full(kind, act int) api.Rec {
	return api.Rec{
		Kind: kind, Txn: 0x010203040506, Prev: 0x111213141516, Page: 0x2122, Act: act,
		Key: "key", Old: "old..", New: "new....", Next: 0x313233343536,
		Images: images(1), Table: table(2), Epoch: 0x41424344, Node: 0x51,
	}
}

// samples are records that have frames: one of each kind, of RecUndo one of each Act.
func samples() []api.Rec {
	var l []api.Rec
	for kind := 1; kind <= 10; kind++ {
		if kind != api.RecUndo {
			l = append(l, full(kind, 77))
		}
	}
	for a := 3; a <= 5; a++ {
		l = append(l, full(api.RecUndo, a))
	}
	shape := full(api.RecShape, 0)
	shape.Images = images(2)
	return append(l, shape)
}

func wantFrame(t *testing.T, r api.Rec, want string) {
	t.Helper()
	if got, err := rec.Frame(r); err != api.OK || got != want {
		t.Errorf("Frame(%#v): error %d\n got %q\nwant %q", r, err, got, want)
	}
}

func wantNoFrame(t *testing.T, what string, r api.Rec, want api.Errno) {
	t.Helper()
	if got, err := rec.Frame(r); err != want || got != "" {
		t.Errorf("%s: Frame: %d bytes, error %d; want none, error %d", what, len(got), err, want)
	}
}

func wantOf(t *testing.T, s string, want api.Rec) {
	t.Helper()
	if got, err := rec.Of(s); err != api.OK || !same(got, want) {
		t.Errorf("Of(%q): %#v, error %d; want %#v", s, got, err, want)
	}
}

func wantNotOf(t *testing.T, what, s string, want api.Errno) {
	t.Helper()
	if got, err := rec.Of(s); err != want || !reflect.DeepEqual(got, api.Rec{}) {
		t.Errorf("%s: Of: %#v, error %d; want no record, error %d", what, got, err, want)
	}
}

func wantOpen(t *testing.T, s string, at int, want api.Rec, many int) {
	t.Helper()
	if got, n, err := rec.Open(s, at); err != api.OK || n != many || !same(got, want) {
		t.Errorf("Open(%d bytes, %d): %#v, %d bytes, error %d; want %#v, %d", len(s), at, got, n, err, want, many)
	}
}

func wantNotOpen(t *testing.T, what, s string, at int, want api.Errno) {
	t.Helper()
	if got, n, err := rec.Open(s, at); err != want || n != 0 || !reflect.DeepEqual(got, api.Rec{}) {
		t.Errorf("%s: Open(%d bytes, %d): %#v, %d bytes, error %d; want no record, 0, error %d", what, len(s), at, got, n, err, want)
	}
}

// heldOf holds Of of a text against the document's words, and ends the test that fails:
// there are many texts.
func heldOf(t *testing.T, s string) {
	t.Helper()
	want, err := readBy(s)
	if err != api.OK {
		wantNotOf(t, "text", s, err)
	} else {
		wantOf(t, s, want)
	}
	endIfFailed(t)
}

func heldOpen(t *testing.T, s string, at int) {
	t.Helper()
	want, many, err := openedBy(s, at)
	if err != api.OK {
		wantNotOpen(t, "text", s, at, err)
	} else {
		wantOpen(t, s, at, want, many)
	}
	endIfFailed(t)
}

func endIfFailed(t *testing.T) {
	t.Helper()
	if t.Failed() {
		t.FailNow()
	}
}

// heldFrame holds Frame of a record, and what follows of it (7.4), against the
// document's words.
func heldFrame(t *testing.T, r api.Rec) {
	t.Helper()
	want, err := framedBy(r)
	if err != api.OK {
		wantNoFrame(t, "record", r, err)
		return
	}
	wantFrame(t, r, want)
	wantOpen(t, "ab"+want+"c", 2, cleaned(r), len(want))
	endIfFailed(t)
}

func TestExample(t *testing.T) {
	f, err := rec.Frame(api.Rec{Kind: api.RecCommit, Txn: 5, Prev: 3})
	if err != api.OK || len(f) != 19 {
		t.Fatalf("frame of a commit: %d bytes, error %d", len(f), err)
	}
	if want := "\x00\x0d" + be(sumOf(f[head:]), 4) + "\x07\x00\x00\x00\x00\x00\x05\x00\x00\x00\x00\x00\x03"; f != want {
		t.Errorf("frame of a commit: %q, want %q", f, want)
	}
}

// TestFrameBytes has each kind's bytes written out.
func TestFrameBytes(t *testing.T) {
	const (
		places = "\x01\x02\x03\x04\x05\x06\x11\x12\x13\x14\x15\x16"
		after  = "\x31\x32\x33\x34\x35\x36"
		cell   = "\x21\x22\x00\x03key"
		was    = "\x00\x05old.."
		is     = "\x00\x07new...."
	)
	for _, c := range []struct {
		kind, act int
		body      string
	}{
		{api.RecFull, 0, "\x01\x01\x00\x01\x00\xe0" + image(0)},
		{api.RecShape, 0, "\x02\x01\x00\x01\x00\xe0" + image(0)},
		{api.RecInsert, 0, "\x03" + places + cell + is},
		{api.RecDelete, 0, "\x04" + places + cell + was},
		{api.RecUpdate, 0, "\x05" + places + cell + was + is},
		{api.RecUndo, 3, "\x06" + places + after + "\x03" + cell + is},
		{api.RecUndo, 4, "\x06" + places + after + "\x04" + cell + was},
		{api.RecUndo, 5, "\x06" + places + after + "\x05" + cell + was + is},
		{api.RecCommit, 0, "\x07" + places},
		{api.RecEnd, 0, "\x08" + places},
		{api.RecCheck, 0, "\x09\x02\x00\x00\x00\x00\x00\x01\x00\x00\x00\x00\x03\xe8\x00\x00\x00\x00\x00\x02\x00\x00\x00\x00\x03\xe9"},
		{api.RecEpoch, 0, "\x0a\x41\x42\x43\x44\x51"},
	} {
		r := full(c.kind, c.act)
		wantFrame(t, r, framed(c.body))
		wantOf(t, c.body, rec.Clean(r))
		wantOpen(t, framed(c.body), 0, rec.Clean(r), head+len(c.body))
	}
}

// TestSumStands pins a frame's sum by itself: the document's own of 123456789 shows
// that this file's is the right one.
func TestSumStands(t *testing.T) {
	if got := sumOf("123456789"); got != 0xe3069283 {
		t.Fatalf("the tests' own sum: %x", got)
	}
	f, _ := rec.Frame(api.Rec{Kind: api.RecShape})
	if want := "\x00\x02" + be(sumOf("\x02\x00"), 4) + "\x02\x00"; f != want {
		t.Errorf("frame of no image: %q, want %q", f, want)
	}
}

func TestCleanKeepsWhatAKindHas(t *testing.T) {
	zero := func(kind int) api.Rec { return api.Rec{Kind: kind} }
	f := full(0, 0)
	change := func(kind, act, next int, was, is string) api.Rec {
		return api.Rec{Kind: kind, Txn: f.Txn, Prev: f.Prev, Page: f.Page, Act: act, Key: f.Key, Old: was, New: is, Next: next}
	}
	for _, c := range []struct{ r, want api.Rec }{
		{full(1, 5), api.Rec{Kind: 1, Images: f.Images}},
		{full(2, 5), api.Rec{Kind: 2, Images: f.Images}},
		{full(3, 5), change(3, 0, 0, "", f.New)},
		{full(4, 5), change(4, 0, 0, f.Old, "")},
		{full(5, 3), change(5, 0, 0, f.Old, f.New)},
		{full(6, 3), change(6, 3, f.Next, "", f.New)},
		{full(6, 4), change(6, 4, f.Next, f.Old, "")},
		{full(6, 5), change(6, 5, f.Next, f.Old, f.New)},
		{full(6, 0), change(6, 0, f.Next, f.Old, f.New)},
		{full(6, 2), change(6, 2, f.Next, f.Old, f.New)},
		{full(6, 6), change(6, 6, f.Next, f.Old, f.New)},
		{full(6, -1), change(6, -1, f.Next, f.Old, f.New)},
		{full(6, math.MaxInt), change(6, math.MaxInt, f.Next, f.Old, f.New)},
		{full(7, 5), api.Rec{Kind: 7, Txn: f.Txn, Prev: f.Prev}},
		{full(8, 5), api.Rec{Kind: 8, Txn: f.Txn, Prev: f.Prev}},
		{full(9, 5), api.Rec{Kind: 9, Table: f.Table}},
		{full(10, 5), api.Rec{Kind: 10, Epoch: f.Epoch, Node: f.Node}},
		{full(0, 5), zero(0)},
		{full(11, 5), zero(11)},
		{full(-1, 5), zero(-1)},
		{full(math.MinInt, 3), zero(math.MinInt)},
		{full(math.MaxInt, 3), zero(math.MaxInt)},
		{full(256+api.RecCommit, 3), zero(256 + api.RecCommit)},
	} {
		got := rec.Clean(c.r)
		if !same(got, c.want) {
			t.Errorf("Clean(%#v):\n got %#v\nwant %#v", c.r, got, c.want)
		}
		if again := rec.Clean(got); !same(again, got) {
			t.Errorf("Clean of what is clean: %#v, want %#v", again, got)
		}
	}
}

// TestCleanRefusesNothing: numbers and texts that have no room stay as they are.
func TestCleanRefusesNothing(t *testing.T) {
	long := strings.Repeat("x", 300)
	r := api.Rec{Kind: api.RecUpdate, Txn: -1, Prev: math.MaxInt, Page: math.MinInt, Key: long, Old: long, New: long}
	if got := rec.Clean(r); !same(got, r) {
		t.Errorf("Clean: %#v", got)
	}
	for many := range 4 {
		r = api.Rec{Kind: api.RecFull, Images: images(many)}
		if got := rec.Clean(r); !same(got, r) {
			t.Errorf("Clean of RecFull with %d images: it has %d", many, len(got.Images))
		}
	}
	r = api.Rec{Kind: api.RecCheck, Table: table(300)}
	if got := rec.Clean(r); !same(got, r) {
		t.Errorf("Clean of RecCheck with 300: it has %d", len(got.Table))
	}
}

// TestListsAreNotShared: what is handed in is neither kept nor changed (R3).
func TestListsAreNotShared(t *testing.T) {
	r := full(api.RecShape, 0)
	r.Images = images(3)
	c := rec.Clean(r)
	r.Images[0].Page, c.Images[1].Page = 99, 98
	if c.Images[0].Page != 1 || r.Images[1].Page != 2 {
		t.Error("Clean shares its images")
	}
	p := rec.Pages(r)
	p[0] = 55
	if r.Images[0].Page != 99 {
		t.Error("Pages shares its images")
	}
	r = full(api.RecCheck, 0)
	c = rec.Clean(r)
	r.Table[0].Txn, c.Table[1].Txn = 99, 98
	if c.Table[0].Txn != 1 || r.Table[1].Txn != 2 {
		t.Error("Clean shares its table")
	}
	for _, r := range samples() {
		before := r
		before.Images, before.Table = slices.Clone(r.Images), slices.Clone(r.Table)
		f, _ := rec.Frame(r)
		one, _, _ := rec.Open(f, 0)
		two, _, _ := rec.Open(f, 0)
		clear(one.Images)
		clear(one.Table)
		if !same(two, rec.Clean(r)) || !same(r, before) {
			t.Errorf("kind %d: Frame or Open shares a list", r.Kind)
		}
	}
}

func TestOpenIsClean(t *testing.T) {
	rnd := rand.New(rand.NewSource(7))
	for _, r := range samples() {
		f, err := rec.Frame(r)
		if err != api.OK {
			t.Fatalf("Frame(%#v): error %d", r, err)
		}
		want := rec.Clean(r)
		wantOpen(t, f, 0, want, len(f))
		wantOf(t, f[head:], want)
		for range 20 {
			ahead, behind := noise(rnd, rnd.Intn(80)), noise(rnd, rnd.Intn(80))
			wantOpen(t, ahead+f+behind, len(ahead), want, len(f))
		}
		wantFrame(t, want, f)
	}
}

// TestLogOfFrames goes from frame to frame by the lengths that are told.
func TestLogOfFrames(t *testing.T) {
	log := ""
	for _, r := range samples() {
		f, _ := rec.Frame(r)
		log += f
	}
	at := 0
	for _, r := range samples() {
		got, many, err := rec.Open(log, at)
		if err != api.OK || !same(got, rec.Clean(r)) {
			t.Fatalf("at %d: %#v, error %d; want %#v", at, got, err, r)
		}
		at += many
	}
	if at != len(log) {
		t.Errorf("the frames come to %d bytes of %d", at, len(log))
	}
	wantNotOpen(t, "behind the last one", log, at, api.ErrShort)
}

func noise(rnd *rand.Rand, many int) string {
	b := make([]byte, many)
	for i := range b {
		b[i] = byte(rnd.Intn(256))
	}
	return string(b)
}

func TestShapeOfManyImages(t *testing.T) {
	for _, many := range []int{0, 1, 2, shapes - 1, shapes} {
		r := api.Rec{Kind: api.RecShape, Images: images(many)}
		f, err := rec.Frame(r)
		if err != api.OK || len(f) != head+2+228*many {
			t.Fatalf("%d images: %d bytes, error %d", many, len(f), err)
		}
		wantFrame(t, r, framed(bytesOf(r)))
		wantOpen(t, f, 0, r, len(f))
	}
	for _, many := range []int{shapes + 1, shapes + 2, 100, 255} {
		r := api.Rec{Kind: api.RecShape, Images: images(many)}
		wantNoFrame(t, "too many images", r, api.ErrLong)
		wantNotOf(t, "too many images", bytesOf(r), api.ErrForm)
	}
	for _, many := range []int{256, 257, 256 + shapes, 512, 1000} {
		wantNoFrame(t, "more than a byte can count", api.Rec{Kind: api.RecShape, Images: images(many)}, api.ErrRange)
	}
}

func TestFullHasOneImage(t *testing.T) {
	wantFrame(t, api.Rec{Kind: api.RecFull, Images: images(1)}, framed("\x01\x01\x00\x01"+laid(image(0))))
	for _, many := range []int{0, 2, 3, shapes, shapes + 1, 255, 256, 257} {
		r := api.Rec{Kind: api.RecFull, Images: images(many)}
		wantNoFrame(t, "RecFull", r, api.ErrForm)
		if many < 256 {
			wantNotOf(t, "RecFull", bytesOf(r), api.ErrForm)
		}
	}
}

func TestImagesHave224Bytes(t *testing.T) {
	for _, kind := range []int{api.RecFull, api.RecShape} {
		for _, many := range []int{0, 1, 223, 224, 225, 65535, 65536} {
			r := api.Rec{Kind: kind, Images: []api.Image{{Page: 1, Text: strings.Repeat("p", many)}}}
			heldFrame(t, r)
			if many != 224 {
				wantNoFrame(t, "image", r, api.ErrForm)
			}
		}
		wantNotOf(t, "image of 223", be(kind, 1)+"\x01\x00\x01\x00\xdf"+strings.Repeat("p", 223), api.ErrForm)
		wantNotOf(t, "image of 0", be(kind, 1)+"\x01\x00\x01\x00\x00", api.ErrForm)
		wantNotOf(t, "image of 225", be(kind, 1)+"\x01\x00\x01\x00\xe1"+strings.Repeat("p", 225), api.ErrLong)
		wantNotOf(t, "image of 225, a byte lacks", be(kind, 1)+"\x01\x00\x01\x00\xe1"+strings.Repeat("p", 224), api.ErrLong)
	}
	for i := range 3 {
		r := api.Rec{Kind: api.RecShape, Images: images(3)}
		r.Images[i].Text += "p"
		wantNoFrame(t, "one of three images too long", r, api.ErrForm)
		r.Images[i].Text = r.Images[i].Text[:223]
		wantNoFrame(t, "one of three images too short", r, api.ErrForm)
		wantNotOf(t, "one of three images too short", bytesOf(r), api.ErrForm)
	}
}

func TestCheckOfManyTransactions(t *testing.T) {
	for _, many := range []int{0, 1, 2, 8, 254, 255} {
		r := api.Rec{Kind: api.RecCheck, Table: table(many)}
		f, err := rec.Frame(r)
		if err != api.OK || len(f) != head+2+12*many {
			t.Fatalf("%d transactions: %d bytes, error %d", many, len(f), err)
		}
		wantFrame(t, r, framed(bytesOf(r)))
		wantOpen(t, f, 0, r, len(f))
	}
	for _, many := range []int{256, 257, 341, 342, 512} {
		wantNoFrame(t, "too many transactions", api.Rec{Kind: api.RecCheck, Table: table(many)}, api.ErrRange)
	}
}

// changes are records of which each one has a key.
func changes() []api.Rec {
	return []api.Rec{full(3, 0), full(4, 0), full(5, 0), full(6, 3), full(6, 4), full(6, 5)}
}

func TestKeysAndValuesAtTheirEdges(t *testing.T) {
	for _, r := range changes() {
		for _, many := range []int{0, 1, 15, 16, 17, 18, 256, 65535, 65536} {
			r.Key = strings.Repeat("k", many)
			heldFrame(t, r)
			if many > 16 {
				wantNoFrame(t, "key", r, api.ErrKey)
			}
		}
		r.Key = ""
		for _, col := range []column{oldVal, newVal} {
			for _, many := range []int{0, 1, 31, 32, 33, 34, 256, 65535, 65536} {
				q := r
				*text(&q, col) = strings.Repeat("v", many)
				heldFrame(t, q)
				if many > 32 && slices.Contains(rowOf(q), col) {
					wantNoFrame(t, "value", q, api.ErrValue)
				}
			}
		}
	}
}

// TestTextsThatAreReadTooLong: a length beyond the most is ErrLong, whether its bytes
// are there or not.
func TestTextsThatAreReadTooLong(t *testing.T) {
	for _, r := range changes() {
		for _, col := range rowOf(r) {
			for _, more := range []int{0, 1, 2, 300} {
				if col.width > 0 {
					continue
				}
				q := rec.Clean(r)
				*text(&q, col) = strings.Repeat("z", col.most+more)
				body := bytesOf(q)
				if more == 0 {
					wantOf(t, body, q)
					continue
				}
				wantNotOf(t, col.name, body, api.ErrLong)
				cut := strings.Index(body, "zzz")
				wantNotOf(t, col.name, body[:cut], api.ErrLong)
				wantNotOf(t, col.name, body[:cut-1], api.ErrShort)
				wantNotOpen(t, col.name, framed(body), 0, api.ErrLong)
			}
		}
	}
}

// TestNumbersAtTheirEdges goes through each number of each kind.
func TestNumbersAtTheirEdges(t *testing.T) {
	for _, r := range samples() {
		for _, col := range rowOf(r) {
			if col.width == 0 || col.name == "Act" {
				continue
			}
			most := 1<<(8*col.width) - 1
			for _, n := range []int{0, 1, 255, most - 1, most} {
				*num(&r, col) = min(n, most)
				heldFrame(t, r)
				if _, err := rec.Frame(r); err != api.OK {
					t.Errorf("kind %d: %s of %d: error %d", r.Kind, col.name, n, err)
				}
			}
			for _, n := range []int{-1, most + 1, 2*most + 1, -most - 1, math.MinInt, math.MaxInt} {
				q := r
				*num(&q, col) = n
				wantNoFrame(t, col.name, q, api.ErrRange)
			}
		}
	}
}

func TestNumbersOfListsAtTheirEdges(t *testing.T) {
	for i := range 3 {
		for _, n := range []int{0, 1, max2 - 1, max2, max2 + 1, -1, math.MinInt, math.MaxInt} {
			r := api.Rec{Kind: api.RecShape, Images: images(3)}
			r.Images[i].Page = n
			heldFrame(t, r)
			one := api.Rec{Kind: api.RecFull, Images: r.Images[i : i+1]}
			heldFrame(t, one)
			if n < 0 || n > max2 {
				wantNoFrame(t, "an image's page", r, api.ErrRange)
				wantNoFrame(t, "the image's page", one, api.ErrRange)
			}
		}
		for _, n := range []int{0, 1, max6 - 1, max6, max6 + 1, -1, math.MinInt, math.MaxInt} {
			r := api.Rec{Kind: api.RecCheck, Table: table(3)}
			r.Table[i].Txn = n
			q := api.Rec{Kind: api.RecCheck, Table: table(3)}
			q.Table[i].Last = n
			heldFrame(t, r)
			heldFrame(t, q)
			if n < 0 || n > max6 {
				wantNoFrame(t, "a transaction", r, api.ErrRange)
				wantNoFrame(t, "its last record", q, api.ErrRange)
			}
		}
	}
}

func TestNoSuchKind(t *testing.T) {
	for _, kind := range []int{0, 11, 12, 255, 256, 256 + 7, -1, -7, -249, math.MinInt, math.MaxInt} {
		wantNoFrame(t, "kind", full(kind, 3), api.ErrArg)
		wantNoFrame(t, "kind", api.Rec{Kind: kind}, api.ErrArg)
	}
	for kind := range 256 {
		if isKind(kind) {
			continue
		}
		for _, behind := range []string{"", "\x00", "\x00\x00", strings.Repeat("\x00", 30), strings.Repeat("\xff", 300)} {
			wantNotOf(t, "kind", be(kind, 1)+behind, api.ErrForm)
			wantNotOpen(t, "kind", framed(be(kind, 1)+behind), 0, api.ErrForm)
		}
	}
}

func TestUndoOfOtherActs(t *testing.T) {
	for _, a := range []int{0, 1, 2, 6, 7, 10, 255, 256, 259, -1, -3, math.MinInt, math.MaxInt} {
		wantNoFrame(t, "act", full(api.RecUndo, a), api.ErrForm)
		if 0 <= a && a < 256 {
			body := bytesOf(cleaned(full(api.RecUndo, a)))
			wantNotOf(t, "act", body, api.ErrForm)
			wantNotOf(t, "act, a byte lacks", body[:len(body)-1], api.ErrShort)
			wantNotOf(t, "act, one more", body+"x", api.ErrForm)
		}
	}
	for a := range 256 {
		for _, q := range []api.Rec{full(api.RecUndo, 3), full(api.RecUndo, 4), full(api.RecUndo, 5)} {
			b := []byte(bytesOf(cleaned(q)))
			b[19] = byte(a)
			heldOf(t, string(b))
		}
	}
}

// TestWhichErrorComesFirst: what is due later in the document's order is there, too.
func TestWhichErrorComesFirst(t *testing.T) {
	long := strings.Repeat("x", 40)
	bad := api.Rec{Txn: -1, Prev: -1, Page: -1, Key: long, Old: long, New: long, Next: -1, Images: []api.Image{{Page: -1}}, Table: []api.Active{{Txn: -1}}, Epoch: -1, Node: -1}
	of := func(kind, act int) api.Rec {
		r := bad
		r.Kind, r.Act = kind, act
		return r
	}
	wantNoFrame(t, "all is wrong, and the kind", of(0, 0), api.ErrArg)
	wantNoFrame(t, "all is wrong, and the kind", of(11, 0), api.ErrArg)
	wantNoFrame(t, "all is wrong", of(api.RecFull, 0), api.ErrForm)
	wantNoFrame(t, "all is wrong", of(api.RecShape, 0), api.ErrForm)
	wantNoFrame(t, "all is wrong", of(api.RecUndo, 0), api.ErrForm)
	wantNoFrame(t, "all is wrong but the Act", of(api.RecUndo, 3), api.ErrKey)
	wantNoFrame(t, "all is wrong", of(api.RecInsert, 0), api.ErrKey)
	wantNoFrame(t, "all is wrong", of(api.RecCommit, 0), api.ErrRange)
	wantNoFrame(t, "all is wrong", of(api.RecCheck, 0), api.ErrRange)
	wantNoFrame(t, "all is wrong", of(api.RecEpoch, 0), api.ErrRange)
	for _, kind := range []int{3, 4, 5} {
		r := of(kind, 0)
		r.Key = ""
		wantNoFrame(t, "a value ahead of the numbers", r, api.ErrValue)
		r = of(api.RecUndo, kind)
		r.Key = ""
		wantNoFrame(t, "a value ahead of the numbers", r, api.ErrValue)
	}
	many := api.Rec{Kind: api.RecShape, Images: images(shapes + 1)}
	many.Images[shapes].Page = -1
	wantNoFrame(t, "too long, and a number", many, api.ErrRange)
	many.Images[0].Text = ""
	wantNoFrame(t, "too long, a number, and a text", many, api.ErrForm)
	more := api.Rec{Kind: api.RecShape, Images: images(256)}
	wantNoFrame(t, "too long, and the count", more, api.ErrRange)
	more.Images[255].Text += "x"
	wantNoFrame(t, "too long, the count, and a text", more, api.ErrForm)
	two := api.Rec{Kind: api.RecFull, Images: images(300)}
	wantNoFrame(t, "RecFull, too long", two, api.ErrForm)
}

// TestWhatAKindHasNot: fields that are not the kind's are not looked at (R5).
func TestWhatAKindHasNot(t *testing.T) {
	long := strings.Repeat("x", 70000)
	for _, r := range samples() {
		want, _ := rec.Frame(r)
		has := rowOf(r)
		q := r
		for _, col := range []column{txn, prev, next, pg, act, epoch, node} {
			if !slices.Contains(has, col) {
				*num(&q, col) = -1
			}
		}
		for _, col := range []column{key, oldVal, newVal} {
			if !slices.Contains(has, col) {
				*text(&q, col) = long
			}
		}
		if r.Kind != api.RecFull && r.Kind != api.RecShape {
			q.Images = []api.Image{{Page: -1, Text: long}}
		}
		if r.Kind != api.RecCheck {
			q.Table = append(table(300), api.Active{Txn: -1, Last: -1})
		}
		wantFrame(t, q, want)
		if !same(rec.Clean(q), rec.Clean(r)) {
			t.Errorf("kind %d: Clean has what the kind has not", r.Kind)
		}
	}
}

func TestFrameTwoSided(t *testing.T) {
	for kind := -1; kind <= 12; kind++ {
		for a := -1; a <= 12; a++ {
			heldFrame(t, full(kind, a))
		}
	}
}

func TestBytesThatAreLeft(t *testing.T) {
	for _, r := range samples() {
		f, _ := rec.Frame(r)
		for _, more := range []string{"\x00", "x", "xy", f, strings.Repeat("\x00", 5000)} {
			wantNotOf(t, "bytes are left", f[head:]+more, api.ErrForm)
			heldOpen(t, framed(f[head:]+more), 0)
			wantOpen(t, f+more, 0, rec.Clean(r), len(f))
		}
	}
}

func TestTextsOfAFewBytes(t *testing.T) {
	heldOf(t, "")
	wantNotOf(t, "nothing", "", api.ErrShort)
	for a := range 256 {
		heldOf(t, be(a, 1))
		for b := range 256 {
			heldOf(t, be(a*256+b, 2))
		}
	}
	for kind := range 13 {
		for n := range 1 << 16 {
			heldOf(t, be(kind, 1)+be(n, 2))
		}
	}
	wantOf(t, "\x02\x00", api.Rec{Kind: api.RecShape})
	wantOf(t, "\x09\x00", api.Rec{Kind: api.RecCheck})
}

// TestFewBytesInFrames: each text of up to two bytes in a frame, and each text of up to
// two bytes, and of some more, that is no frame.
func TestFewBytesInFrames(t *testing.T) {
	for n := range 1 << 16 {
		heldOpen(t, framed(be(n, 2)), 0)
		if n < 256 {
			heldOpen(t, framed(be(n, 1)), 0)
			heldOpen(t, be(n, 1), 0)
		}
		heldOpen(t, be(n, 2), n%3)
		heldOpen(t, be(n, 2)+"\x00\x00\x00\x00", 0)
		heldOpen(t, be(n, 2)+"\x00\x00\x00\x00\x02\x00", 0)
	}
}

// TestOneByteTurnedOf: every sample with one byte as each other one, without a frame.
func TestOneByteTurnedOf(t *testing.T) {
	for _, r := range samples() {
		s := bytesOf(cleaned(r))
		for i := range len(s) {
			b := []byte(s)
			for v := range 256 {
				if inside := i > 10 && i < len(s)-10 && len(s) > 100 && v%16 != 0; inside {
					continue // the middle of a page's text
				}
				b[i] = byte(v)
				heldOf(t, string(b))
			}
		}
	}
}

// TestOneByteLess: every sample cut off at each place, from either end, with one byte
// left out, and with one more.
func TestOneByteLess(t *testing.T) {
	for _, r := range samples() {
		s := bytesOf(cleaned(r))
		for i := range len(s) {
			heldOf(t, s[:i])
			heldOf(t, s[i:])
			heldOf(t, s[:i]+s[i+1:])
			heldOf(t, s[:i]+"\x00"+s[i:])
			heldOf(t, s[:i]+"\x01"+s[i:])
			wantNotOf(t, "cut off", s[:i], api.ErrShort)
			heldOpen(t, framed(s[:i]), 0)
			heldOpen(t, framed(s[i:]), 0)
		}
	}
}

func TestFrameWithOneByteTurned(t *testing.T) {
	for _, r := range samples() {
		f, _ := rec.Frame(r)
		for i := range len(f) {
			b := []byte(f)
			for _, turn := range []byte{1, 2, 4, 8, 16, 32, 64, 128, 255, 90} {
				b[i] = f[i] ^ turn
				heldOpen(t, string(b), 0)
				heldOpen(t, string(b)+f, 0)
				if _, _, err := rec.Open(string(b), 0); err == api.OK {
					t.Errorf("kind %d: byte %d xored with %d: opened", r.Kind, i, turn)
				}
			}
		}
	}
}

func TestFrameWithOneByteLess(t *testing.T) {
	for _, r := range samples() {
		f, _ := rec.Frame(r)
		for i := range len(f) {
			wantNotOpen(t, "cut off", f[:i], 0, api.ErrShort)
			wantNotOpen(t, "cut off behind others", "ab"+f[:i], 2, api.ErrShort)
			heldOpen(t, f[:i]+f[i+1:], 0)
			heldOpen(t, f, i+1)
		}
		wantOpen(t, f, 0, rec.Clean(r), len(f))
	}
}

func TestOneBitOfTheSum(t *testing.T) {
	for _, r := range samples() {
		f, _ := rec.Frame(r)
		for bit := range 32 {
			b := []byte(f)
			b[2+bit/8] ^= 1 << (bit % 8)
			wantNotOpen(t, "sum", string(b), 0, api.ErrSum)
		}
		for bit := range 8 * (len(f) - head) {
			b := []byte(f)
			b[head+bit/8] ^= 1 << (bit % 8)
			wantNotOpen(t, "what it is the sum of", string(b), 0, api.ErrSum)
		}
	}
}

func TestLengthsOfFrames(t *testing.T) {
	body := func(many int) string { return strings.Repeat("\x07", many) }
	wantNotOpen(t, "length 0", framed(""), 0, api.ErrForm)
	wantNotOpen(t, "length 0, bytes behind", framed("")+body(20), 0, api.ErrForm)
	wantNotOpen(t, "length 1", framed(body(1)), 0, api.ErrShort)
	wantNotOpen(t, "length 1, a kind that is none", framed("\x00"), 0, api.ErrForm)
	wantNotOpen(t, "length 1, no byte", framed(body(1))[:head], 0, api.ErrShort)
	wantNotOpen(t, "length 1, wrong sum", "\x00\x01\x00\x00\x00\x00\x07", 0, api.ErrSum)
	wantNotOpen(t, "length 4096", framed(body(4096)), 0, api.ErrForm) // Of: bytes are left
	wantNotOpen(t, "length 4096, a byte lacks", framed(body(4096))[:head+4095], 0, api.ErrShort)
	wantNotOpen(t, "length 4096, nothing behind", framed(body(4096))[:head], 0, api.ErrShort)
	wantNotOpen(t, "length 4096, wrong sum", framed(body(4096))[:head+4095]+"x", 0, api.ErrSum)
	wantNotOpen(t, "length 4096, too few bytes of an image", framed("\x02\x12"+images4096()), 0, api.ErrShort)
	wantNotOpen(t, "length 4097", framed(body(4097)), 0, api.ErrForm)
	wantNotOpen(t, "length 4097, nothing behind", framed(body(4097))[:head], 0, api.ErrForm)
	wantNotOpen(t, "length 4097, wrong sum", "\x10\x01xxxx"+body(4097), 0, api.ErrForm)
	wantNotOpen(t, "length 65535", "\xff\xffxxxx", 0, api.ErrForm)
	wantNotOpen(t, "length 4097, five bytes", "\x10\x01xxx", 0, api.ErrShort)
	wantNotOpen(t, "length 0, five bytes", "\x00\x00\x00\x00\x00", 0, api.ErrShort)
	r := api.Rec{Kind: api.RecShape, Images: images(shapes + 1)}
	wantNotOpen(t, "a record that is too long", framed(bytesOf(r)), 0, api.ErrForm)
}

// images4096 is what 18 images begin with, cut at the longest frame.
func images4096() string {
	return bytesOf(api.Rec{Kind: api.RecShape, Images: images(shapes + 1)})[2:4096]
}

func TestPlacesInATextToOpen(t *testing.T) {
	f, _ := rec.Frame(full(api.RecCommit, 0))
	for _, s := range []string{"", "x", f, f + f, "\x00\x00" + f} {
		for _, at := range []int{-1, -2, -len(s), -len(s) - 1, len(s) + 1, len(s) + 2, math.MinInt, math.MaxInt} {
			if at < 0 || at > len(s) {
				wantNotOpen(t, "place", s, at, api.ErrRange)
			}
		}
		wantNotOpen(t, "the end", s, len(s), api.ErrShort)
		for back := 1; back < head && back <= len(s); back++ {
			wantNotOpen(t, "near the end", s, len(s)-back, api.ErrShort)
		}
		for at := range len(s) {
			heldOpen(t, s, at)
		}
	}
	wantOpen(t, f, 0, rec.Clean(full(api.RecCommit, 0)), len(f))
	wantOpen(t, f+f, len(f), rec.Clean(full(api.RecCommit, 0)), len(f))
}

func TestPages(t *testing.T) {
	three := []api.Image{{Page: 9}, {Page: 2, Text: "x"}, {Page: 9}}
	for _, c := range []struct {
		r    api.Rec
		want []int
	}{
		{full(api.RecFull, 0), []int{1}},
		{full(api.RecShape, 0), []int{1}},
		{api.Rec{Kind: api.RecShape, Page: 5, Images: three}, []int{9, 2, 9}},
		{api.Rec{Kind: api.RecFull, Page: 5, Images: three}, []int{9, 2, 9}},
		{api.Rec{Kind: api.RecShape, Page: 5}, nil},
		{api.Rec{Kind: api.RecFull, Page: 5}, nil},
		{full(api.RecInsert, 0), []int{0x2122}},
		{full(api.RecDelete, 0), []int{0x2122}},
		{full(api.RecUpdate, 0), []int{0x2122}},
		{api.Rec{Kind: api.RecInsert}, []int{0}},
		{full(api.RecUndo, 3), []int{0x2122}},
		{full(api.RecUndo, 4), []int{0x2122}},
		{full(api.RecUndo, 5), []int{0x2122}},
		{full(api.RecUndo, 0), []int{0x2122}},
		{full(api.RecCommit, 0), nil},
		{full(api.RecEnd, 0), nil},
		{full(api.RecCheck, 0), nil},
		{full(api.RecEpoch, 0), nil},
		{full(0, 3), nil},
		{full(11, 3), nil},
		{full(-1, 3), nil},
		{full(math.MinInt, 3), nil},
		{full(math.MaxInt, 3), nil},
	} {
		if got := rec.Pages(c.r); !slices.Equal(got, c.want) {
			t.Errorf("Pages(kind %d, Act %d): %v, want %v", c.r.Kind, c.r.Act, got, c.want)
		}
	}
	if got := rec.Pages(api.Rec{Kind: api.RecShape, Images: images(300)}); len(got) != 300 || got[299] != 300 {
		t.Errorf("Pages of 300 images: %d", len(got))
	}
}

func TestBack(t *testing.T) {
	f := full(0, 0)
	for _, c := range []struct {
		kind, act int
		cell      api.Cell
	}{
		{api.RecInsert, api.RecDelete, api.Cell{Key: f.Key, Val: f.New}},
		{api.RecDelete, api.RecInsert, api.Cell{Key: f.Key, Val: f.Old}},
		{api.RecUpdate, api.RecUpdate, api.Cell{Key: f.Key, Val: f.Old}},
	} {
		for _, own := range []int{0, 3, 4, 5} {
			if act, cell, is := rec.Back(full(c.kind, own)); act != c.act || cell != c.cell || !is {
				t.Errorf("Back(kind %d): %d, %v, %v; want %d, %v", c.kind, act, cell, is, c.act, c.cell)
			}
		}
		if act, cell, is := rec.Back(api.Rec{Kind: c.kind}); act != c.act || cell != (api.Cell{}) || !is {
			t.Errorf("Back(kind %d, empty): %d, %v, %v", c.kind, act, cell, is)
		}
	}
	for _, kind := range []int{1, 2, 6, 7, 8, 9, 10, 0, 11, -1, 256 + 3, math.MinInt, math.MaxInt} {
		for _, own := range []int{0, 3, 4, 5} {
			if act, cell, is := rec.Back(full(kind, own)); act != 0 || cell != (api.Cell{}) || is {
				t.Errorf("Back(kind %d, Act %d): %d, %v, %v; want none", kind, own, act, cell, is)
			}
		}
	}
}

// TestManyRecords holds records of chance, right and wrong ones, against the document's
// words.
func TestManyRecords(t *testing.T) {
	rnd := rand.New(rand.NewSource(21))
	frames := 0
	for range 20000 {
		r := chance(rnd)
		heldFrame(t, r)
		if got := rec.Clean(r); !same(got, cleaned(r)) {
			t.Fatalf("Clean(%#v): %#v", r, got)
		}
		if _, err := rec.Frame(r); err == api.OK {
			frames++
		}
	}
	if frames < 5000 {
		t.Errorf("only %d of the records have frames: the test is weak", frames)
	}
}

// TestManyTexts holds texts of chance against the document's words.
func TestManyTexts(t *testing.T) {
	rnd := rand.New(rand.NewSource(22))
	for range 20000 {
		s := be(rnd.Intn(12), 1) + small(rnd, rnd.Intn(60))
		heldOf(t, s)
		heldOpen(t, framed(s), 0)
		heldOpen(t, s, rnd.Intn(len(s)+3)-1)
	}
}

// small is bytes that are mostly 0, so that lengths within them often lead somewhere.
func small(rnd *rand.Rand, many int) string {
	b := make([]byte, many)
	for i := range b {
		if rnd.Intn(4) == 0 {
			b[i] = byte(rnd.Intn(6))
		}
	}
	return string(b)
}

func chance(rnd *rand.Rand) api.Rec {
	number := func(width int) int {
		edges := []int{0, 1<<(8*width) - 1, rnd.Intn(1 << (8 * width)), rnd.Intn(9)}
		if rnd.Intn(40) == 0 {
			return []int{-1, 1 << (8 * width), math.MinInt, math.MaxInt}[rnd.Intn(4)]
		}
		return edges[rnd.Intn(len(edges))]
	}
	length := func(most int) int {
		if rnd.Intn(30) == 0 {
			return most + 1 + rnd.Intn(3)
		}
		return rnd.Intn(most + 1)
	}
	r := api.Rec{
		Kind: rnd.Intn(10) + 1, Txn: number(6), Prev: number(6), Next: number(6), Page: number(2), Act: rnd.Intn(3) + 3,
		Key: noise(rnd, length(16)), Old: noise(rnd, length(32)), New: noise(rnd, length(32)), Epoch: number(4), Node: number(1),
	}
	if rnd.Intn(20) == 0 {
		r.Kind, r.Act = rnd.Intn(14)-1, rnd.Intn(14)-1
	}
	many := rnd.Intn(3)
	if r.Kind == api.RecFull && rnd.Intn(5) > 0 {
		many = 1
	}
	for range many {
		r.Images = append(r.Images, api.Image{Page: number(2), Text: image(rnd.Intn(256))[rnd.Intn(20)/19:]})
	}
	for range rnd.Intn(5) {
		r.Table = append(r.Table, api.Active{Txn: number(6), Last: number(6)})
	}
	return r
}

package pack_test

import (
	"math"
	"strings"
	"testing"

	"gharry/api"
	"gharry/pack"
)

func wantText(t *testing.T, what, got string, err api.Errno, want string, wantErr api.Errno) {
	t.Helper()
	if err != wantErr {
		t.Errorf("%s: error %d, want %d", what, err, wantErr)
	}
	if got != want {
		t.Errorf("%s: %s, want %s", what, short(got), short(want))
	}
}

// short keeps a failure readable where a text is long.
func short(s string) string {
	if len(s) > 40 {
		s = s[:40] + ".."
	}
	var b strings.Builder
	for _, c := range []byte(s) {
		b.WriteString(string("0123456789abcdef"[c>>4]) + string("0123456789abcdef"[c&15]) + " ")
	}
	return b.String()
}

// Promise 1.1.

func TestPut(t *testing.T) {
	for _, c := range []struct {
		s        string
		n, width int
		want     string
		err      api.Errno
	}{
		{"", 258, 2, "\x01\x02", api.OK},
		{"", 0, 1, "\x00", api.OK},
		{"", 1, 1, "\x01", api.OK},
		{"", 255, 1, "\xff", api.OK},
		{"", 255, 2, "\x00\xff", api.OK},
		{"ab", 256, 2, "ab\x01\x00", api.OK},
		{"ab", 0, 6, "ab\x00\x00\x00\x00\x00\x00", api.OK},
		{"", 0x010203, 3, "\x01\x02\x03", api.OK},
		{"", 0x01020304, 4, "\x01\x02\x03\x04", api.OK},
		{"", 0x0102030405, 5, "\x01\x02\x03\x04\x05", api.OK},
		{"", 0x010203040506, 6, "\x01\x02\x03\x04\x05\x06", api.OK},
		{"\x00\xff", 7, 1, "\x00\xff\x07", api.OK},

		{"ab", 1, 0, "", api.ErrArg},
		{"ab", 1, 7, "", api.ErrArg},
		{"ab", 1, 8, "", api.ErrArg},
		{"ab", 1, -1, "", api.ErrArg},
		{"ab", 1, math.MaxInt, "", api.ErrArg},
		{"ab", 1, math.MinInt, "", api.ErrArg},
		{"ab", 256, 1, "", api.ErrRange},
		{"ab", -1, 1, "", api.ErrRange},
		{"ab", math.MaxInt, 6, "", api.ErrRange},
		{"ab", math.MinInt, 6, "", api.ErrRange},

		// The width is named first.
		{"ab", -1, 0, "", api.ErrArg},
		{"ab", -1, 7, "", api.ErrArg},
		{"ab", math.MaxInt, 7, "", api.ErrArg},
	} {
		got, err := pack.Put(c.s, c.n, c.width)
		wantText(t, "Put", got, err, c.want, c.err)
	}
}

func TestPutAtTheEdgesOfEachWidth(t *testing.T) {
	for width := 1; width <= 6; width++ {
		end := 1 << (8 * width)
		got, err := pack.Put("s", 0, width)
		wantText(t, "Put of 0", got, err, "s"+strings.Repeat("\x00", width), api.OK)
		got, err = pack.Put("s", end-1, width)
		wantText(t, "Put of the greatest", got, err, "s"+strings.Repeat("\xff", width), api.OK)
		got, err = pack.Put("s", end, width)
		wantText(t, "Put of one more", got, err, "", api.ErrRange)
		got, err = pack.Put("s", -1, width)
		wantText(t, "Put of -1", got, err, "", api.ErrRange)
	}
}

func TestText(t *testing.T) {
	longest := strings.Repeat("x", 65535)
	for _, c := range []struct {
		s, t, want string
		err        api.Errno
	}{
		{"", "ab", "\x00\x02ab", api.OK},
		{"x", "", "x\x00\x00", api.OK},
		{"x", "\x00\xff", "x\x00\x02\x00\xff", api.OK},
		{"", "é", "\x00\x02\xc3\xa9", api.OK},
		{"", longest[:256], "\x01\x00" + longest[:256], api.OK},
		{"s", longest, "s\xff\xff" + longest, api.OK},
		{"s", longest + "x", "", api.ErrLong},
		{"s", longest + longest, "", api.ErrLong},
		// What stands ahead may be longer than a text that is laid.
		{longest + longest, "ab", longest + longest + "\x00\x02ab", api.OK},
	} {
		got, err := pack.Text(c.s, c.t)
		wantText(t, "Text", got, err, c.want, c.err)
	}
}

// Promise 1.2.

func TestWriterLaysOneBehindTheOther(t *testing.T) {
	var w pack.Writer
	got, err := w.All()
	wantText(t, "All of nothing", got, err, "", api.OK)
	w.Num(258, 2)
	w.Text("ab")
	got, err = w.All()
	wantText(t, "All", got, err, "\x01\x02\x00\x02ab", api.OK)
	got, err = w.All()
	wantText(t, "All again", got, err, "\x01\x02\x00\x02ab", api.OK)
	w.Text("")
	w.Num(1<<48-1, 6)
	got, err = w.All()
	wantText(t, "All behind more", got, err, "\x01\x02\x00\x02ab\x00\x00\xff\xff\xff\xff\xff\xff", api.OK)
}

func TestWriterLaysAsPutAndText(t *testing.T) {
	var w pack.Writer
	want := ""
	for n := range 3000 {
		w.Num(n, 2)
		want, _ = pack.Put(want, n, 2)
		if n%10 == 0 {
			w.Text(want[:n/10])
			want, _ = pack.Text(want, want[:n/10])
		}
	}
	got, err := w.All()
	wantText(t, "All", got, err, want, api.OK)
}

func TestWriterBehindAnError(t *testing.T) {
	tooLong := strings.Repeat("x", 65536)
	for _, c := range []struct {
		what string
		lay  func(w *pack.Writer)
		err  api.Errno
	}{
		{"width 0", func(w *pack.Writer) { w.Num(1, 0) }, api.ErrArg},
		{"width 7", func(w *pack.Writer) { w.Num(1, 7) }, api.ErrArg},
		{"width ahead of number", func(w *pack.Writer) { w.Num(-1, 7) }, api.ErrArg},
		{"number too great", func(w *pack.Writer) { w.Num(256, 1) }, api.ErrRange},
		{"number below 0", func(w *pack.Writer) { w.Num(-1, 6) }, api.ErrRange},
		{"text too long", func(w *pack.Writer) { w.Text(tooLong) }, api.ErrLong},
		{"first of two", func(w *pack.Writer) { w.Text(tooLong); w.Num(1, 7) }, api.ErrLong},
		{"first of three", func(w *pack.Writer) { w.Num(256, 1); w.Text(tooLong); w.Num(1, 7) }, api.ErrRange},
	} {
		for _, ahead := range []string{"", "ab"} {
			var w pack.Writer
			if ahead != "" {
				w.Text(ahead)
			}
			c.lay(&w)
			got, err := w.All()
			wantText(t, c.what, got, err, "", c.err)
			w.Num(1, 1)
			w.Text("cd")
			got, err = w.All()
			wantText(t, c.what+", and more behind", got, err, "", c.err)
		}
	}
}

func TestNilWriter(t *testing.T) {
	var w *pack.Writer
	w.Num(1, 1)
	w.Num(1, 7)
	w.Text("ab")
	got, err := w.All()
	wantText(t, "All of nil", got, err, "", api.ErrState)
}

func TestWriterThatIsCopiedGoesOnByItself(t *testing.T) {
	var w pack.Writer
	for n := range 5 {
		w.Num(n, 1)
	}
	v := w
	w.Text("w")
	v.Text("v")
	got, err := w.All()
	wantText(t, "the first", got, err, "\x00\x01\x02\x03\x04\x00\x01w", api.OK)
	got, err = v.All()
	wantText(t, "the copy", got, err, "\x00\x01\x02\x03\x04\x00\x01v", api.OK)
}

// Promise 1.3.

// A wish is a call of a reader, what it tells, and what the reader tells then.
type wish struct {
	what string
	call func(r *pack.Reader) (string, int)
	text string
	num  int
	left int
	err  api.Errno
}

func raw(n int, text string, left int, err api.Errno) wish {
	return wish{"Raw", func(r *pack.Reader) (string, int) { return r.Raw(n), 0 }, text, 0, left, err}
}

func num(width, n, left int, err api.Errno) wish {
	return wish{"Num", func(r *pack.Reader) (string, int) { return "", r.Num(width) }, "", n, left, err}
}

func text(most int, text string, left int, err api.Errno) wish {
	return wish{"Text", func(r *pack.Reader) (string, int) { return r.Text(most), 0 }, text, 0, left, err}
}

func end(left int, err api.Errno) wish {
	return wish{"End", func(r *pack.Reader) (string, int) { return "", int(r.End()) }, "", int(err), left, err}
}

func (w wish) check(t *testing.T, s string, r *pack.Reader) {
	t.Helper()
	gotText, gotNum := w.call(r)
	if gotText != w.text || gotNum != w.num {
		t.Errorf("of %s %s: %s, %d, want %s, %d", short(s), w.what, short(gotText), gotNum, short(w.text), w.num)
	}
	if r.Left() != w.left || r.Err() != w.err {
		t.Errorf("of %s behind %s: left %d, error %d, want %d, %d", short(s), w.what, r.Left(), r.Err(), w.left, w.err)
	}
}

func TestReader(t *testing.T) {
	longest := strings.Repeat("x", 65535)
	for _, c := range []struct {
		s      string
		wishes []wish
	}{
		{"", []wish{raw(0, "", 0, api.OK), end(0, api.OK)}},
		{"", []wish{end(0, api.OK), raw(0, "", 0, api.OK), end(0, api.OK)}},
		{"", []wish{raw(1, "", 0, api.ErrShort)}},
		{"", []wish{num(1, 0, 0, api.ErrShort)}},
		{"", []wish{text(9, "", 0, api.ErrShort)}},

		{"abc", []wish{raw(0, "", 3, api.OK), raw(2, "ab", 1, api.OK), raw(1, "c", 0, api.OK), end(0, api.OK)}},
		{"abc", []wish{raw(3, "abc", 0, api.OK), raw(1, "", 0, api.ErrShort)}},
		{"abc", []wish{raw(4, "", 0, api.ErrShort)}},
		{"abc", []wish{raw(math.MaxInt, "", 0, api.ErrShort)}},
		{"abc", []wish{raw(-1, "", 0, api.ErrArg)}},
		{"abc", []wish{raw(math.MinInt, "", 0, api.ErrArg)}},

		{"\x01\x02\xff", []wish{num(2, 258, 1, api.OK), num(1, 255, 0, api.OK), end(0, api.OK)}},
		{"\x00\x01\x80", []wish{num(3, 384, 0, api.OK)}},
		{"\x01\x02\x03\x04\x05\x06", []wish{num(6, 0x010203040506, 0, api.OK)}},
		{"\xff\xff\xff\xff\xff\xff", []wish{num(6, 1<<48-1, 0, api.OK)}},
		{"\x00\x00\x00\x00\x00\x00", []wish{num(6, 0, 0, api.OK)}},
		{"abcde", []wish{num(6, 0, 0, api.ErrShort)}},
		{"abcdefgh", []wish{num(0, 0, 0, api.ErrArg)}},
		{"abcdefgh", []wish{num(7, 0, 0, api.ErrArg)}},
		{"abcdefgh", []wish{num(-1, 0, 0, api.ErrArg)}},
		// The width is named first.
		{"", []wish{num(0, 0, 0, api.ErrArg)}},
		{"", []wish{num(7, 0, 0, api.ErrArg)}},

		{"\x00\x02abc", []wish{text(2, "ab", 1, api.OK), raw(1, "c", 0, api.OK), end(0, api.OK)}},
		{"\x00\x02ab", []wish{text(3, "ab", 0, api.OK), end(0, api.OK)}},
		{"\x00\x00", []wish{text(0, "", 0, api.OK), end(0, api.OK)}},
		{"\xff\xff" + longest, []wish{text(65535, longest, 0, api.OK), end(0, api.OK)}},
		{"\xff\xff" + longest, []wish{text(65534, "", 0, api.ErrLong)}},
		{"\xff\xff" + longest[1:], []wish{text(65535, "", 0, api.ErrShort)}},
		{"\x00", []wish{text(9, "", 0, api.ErrShort)}},
		{"\x00\x03ab", []wish{text(3, "", 0, api.ErrShort)}},
		{"\x00\x02ab", []wish{text(1, "", 0, api.ErrLong)}},
		{"\x00\x00ab", []wish{text(-1, "", 0, api.ErrLong)}},
		{"\x00\x00ab", []wish{text(math.MinInt, "", 0, api.ErrLong)}},
		// Num's error is named first, then ErrLong, then ErrShort.
		{"\x00", []wish{text(-1, "", 0, api.ErrShort)}},
		{"\x00\x03ab", []wish{text(2, "", 0, api.ErrLong)}},

		{"abc", []wish{end(0, api.ErrForm)}},
		{"abc", []wish{raw(2, "ab", 1, api.OK), end(0, api.ErrForm), end(0, api.ErrForm)}},
	} {
		r := pack.Read(c.s)
		if r.Left() != len(c.s) || r.Err() != api.OK {
			t.Fatalf("Read of %s: left %d, error %d", short(c.s), r.Left(), r.Err())
		}
		for _, w := range c.wishes {
			w.check(t, c.s, r)
		}
	}
}

func TestReaderBehindAnError(t *testing.T) {
	const s = "\x00\x01a\x00\x01b"
	for _, first := range []wish{
		raw(-1, "", 0, api.ErrArg),
		raw(7, "", 0, api.ErrShort),
		num(0, 0, 0, api.ErrArg),
		num(7, 0, 0, api.ErrArg),
		text(0, "", 0, api.ErrLong),
		end(0, api.ErrForm),
	} {
		r := pack.Read(s)
		first.check(t, s, r)
		for _, w := range []wish{
			raw(0, "", 0, first.err),
			raw(1, "", 0, first.err),
			raw(-1, "", 0, first.err),
			raw(99, "", 0, first.err),
			num(1, 0, 0, first.err),
			num(0, 0, 0, first.err),
			text(9, "", 0, first.err),
			text(-1, "", 0, first.err),
			end(0, first.err),
		} {
			w.check(t, s, r)
		}
	}
}

func TestNilReader(t *testing.T) {
	var r *pack.Reader
	for _, w := range []wish{
		raw(0, "", 0, api.ErrState),
		raw(1, "", 0, api.ErrState),
		raw(-1, "", 0, api.ErrState),
		num(1, 0, 0, api.ErrState),
		num(7, 0, 0, api.ErrState),
		text(9, "", 0, api.ErrState),
		text(-1, "", 0, api.ErrState),
		end(0, api.ErrState),
	} {
		w.check(t, "nil", r)
	}
}

// A reader that nobody made has nothing to read: the chapter names no error for it.
func TestReaderThatNobodyMade(t *testing.T) {
	end(0, api.OK).check(t, "", &pack.Reader{})
	num(1, 0, 0, api.ErrShort).check(t, "", &pack.Reader{})
}

// Promise 1.4.

func TestEachNumberOfTwoBytesIsReadAgain(t *testing.T) {
	for n := range 1 << 16 {
		s, err := pack.Put("", n, 2)
		r := pack.Read(s)
		if err != api.OK || r.Num(2) != n || r.End() != api.OK {
			t.Fatalf("%d: %s, errors %d, %d", n, short(s), err, r.Err())
		}
	}
}

func TestEachLengthOfATextIsReadAgain(t *testing.T) {
	all := make([]byte, 65535)
	for i := range all {
		all[i] = byte(i * 7)
	}
	for size := 0; size <= 65535; size = size*5/4 + 1 {
		want := string(all[:size])
		s, err := pack.Text("", want)
		r := pack.Read(s)
		if err != api.OK || r.Text(size) != want || r.End() != api.OK {
			t.Fatalf("%d bytes: errors %d, %d", size, err, r.Err())
		}
	}
}

// steps tells numbers that look as if by chance, always the same ones.
func steps(seed uint64) func(below int) int {
	return func(below int) int {
		seed = seed*6364136223846793005 + 1442695040888963407
		return int((seed >> 16) % uint64(below))
	}
}

func TestWhatWasLaidIsReadAgain(t *testing.T) {
	for seed := range 200 {
		lay, read := steps(uint64(seed)), steps(uint64(seed))
		var w pack.Writer
		for range 50 {
			if width := lay(7); width > 0 {
				w.Num(lay(1<<(8*width)), width)
			} else {
				w.Text(strings.Repeat(string(rune(lay(999))), lay(99)))
			}
		}
		s, err := w.All()
		if err != api.OK {
			t.Fatalf("seed %d: error %d", seed, err)
		}
		r := pack.Read(s)
		for i := range 50 {
			if width := read(7); width > 0 {
				if want, got := read(1<<(8*width)), r.Num(width); got != want {
					t.Fatalf("seed %d, %d: %d, want %d", seed, i, got, want)
				}
			} else if want, got := strings.Repeat(string(rune(read(999))), read(99)), r.Text(65535); got != want {
				t.Fatalf("seed %d, %d: %s, want %s", seed, i, short(got), short(want))
			}
		}
		if r.End() != api.OK {
			t.Fatalf("seed %d: error %d", seed, r.End())
		}
	}
}

// Promise P1: whatever a reader is given, and asked, it ends, and no call tells more than is there.
func TestReaderOfAnything(t *testing.T) {
	for seed := range 2000 {
		next := steps(uint64(seed))
		b := make([]byte, next(40))
		for i := range b {
			b[i] = byte(next(256) >> next(9))
		}
		r := pack.Read(string(b))
		for range 12 {
			left, err := r.Left(), r.Err()
			took := len(anything(r, next(3), next(12)-2))
			if err != api.OK && (r.Err() != err || r.Left() != 0 || took != 0) {
				t.Fatalf("seed %d: behind error %d: error %d, left %d, took %d", seed, err, r.Err(), r.Left(), took)
			}
			if r.Err() == api.OK && r.Left()+took != left {
				t.Fatalf("seed %d: left %d, took %d, was %d", seed, r.Left(), took, left)
			}
		}
	}
}

// anything does one of a reader's calls: as many bytes as it took, if it took any.
func anything(r *pack.Reader, which, n int) string {
	switch which {
	case 0:
		return r.Raw(n)
	case 1:
		if r.Num(n); r.Err() == api.OK {
			return strings.Repeat("x", n)
		}
	default:
		if s := r.Text(n); r.Err() == api.OK {
			return "xx" + s
		}
	}
	return ""
}

// Package pack is layer 1: see shared/doc/01-pack.md.
package pack

import (
	"gharry/api"
)

const (
	maxWidth  = 6
	textWidth = 2 // of the number that tells how long a text is
	maxText   = 1<<(8*textWidth) - 1
)

// Put lays a number in so many bytes behind a text, the highest first.
func Put(s string, n, width int) (string, api.Errno) {
	if !isWidth(width) {
		return "", api.ErrArg
	}
	if n < 0 || n >= 1<<(8*width) {
		return "", api.ErrRange
	}
	return s + number(n, width), api.OK
}

// Text lays a text behind another one: how long it is, in two bytes, and it.
func Text(s, t string) (string, api.Errno) {
	if len(t) > maxText {
		return "", api.ErrLong
	}
	return s + number(len(t), textWidth) + t, api.OK
}

func isWidth(width int) bool { return 1 <= width && width <= maxWidth }

// number is n's bytes; that n fits into them is the caller's care.
func number(n, width int) string {
	laid := make([]byte, 0, maxWidth)
	lay := func(b byte) { laid = append(laid, b) }
	for shift := 8 * (width - 1); shift >= 0; shift -= 8 {
		lay(byte(n >> shift))
	}
	return string(laid)
}

// Writer lays numbers and texts one behind the other; behind its first error nothing more.
//
// What was laid is a chain of pieces that nobody writes again: a copy of a writer
// goes on by itself, and a piece more costs the same however much is laid ahead.
type Writer struct {
	last *piece
	size int
	err  api.Errno
}

type piece struct {
	ahead *piece
	text  string
}

// Num lays a number.
func (w *Writer) Num(n, width int) { w.lay(Put("", n, width)) }

// Text lays a text.
func (w *Writer) Text(t string) { w.lay(Text("", t)) }

func (w *Writer) lay(s string, err api.Errno) {
	switch {
	case w == nil || w.err != api.OK:
	case err != api.OK:
		*w = Writer{err: err}
	default:
		w.last = &piece{ahead: w.last, text: s}
		w.size += len(s)
	}
}

// All is all that was laid, or the first error.
func (w *Writer) All() (string, api.Errno) {
	if w == nil {
		return "", api.ErrState
	}
	if w.err != api.OK {
		return "", w.err
	}
	all := make([]byte, w.size)
	end := w.size
	for p := w.last; p != nil; p = p.ahead {
		end -= len(p.text)
		copy(all[end:], p.text)
	}
	return string(all), api.OK
}

// Reader reads what was laid; behind its first error nothing more.
type Reader struct {
	left string
	err  api.Errno
}

// Read is a reader of a text.
func Read(s string) *Reader { return &Reader{left: s} }

// Raw reads so many bytes.
func (r *Reader) Raw(n int) string {
	if n < 0 {
		r.fail(api.ErrArg)
	} else if n > r.Left() {
		r.fail(api.ErrShort)
	}
	if r.Err() != api.OK {
		return ""
	}
	s := r.left[:n]
	r.left = r.left[n:]
	return s
}

// Num reads a number of so many bytes.
func (r *Reader) Num(width int) int {
	if !isWidth(width) {
		r.fail(api.ErrArg)
	}
	n := 0
	for _, b := range []byte(r.Raw(width)) {
		n = n<<8 | int(b)
	}
	return n
}

// Text reads a text of at most so many bytes.
func (r *Reader) Text(most int) string {
	n := r.Num(textWidth)
	if n > most {
		r.fail(api.ErrLong)
	}
	return r.Raw(n)
}

// Left is how many bytes are left.
func (r *Reader) Left() int {
	if r == nil {
		return 0
	}
	return len(r.left)
}

// Err is the first error.
func (r *Reader) Err() api.Errno {
	if r == nil {
		return api.ErrState
	}
	return r.err
}

// End is the first error; nothing may be left.
func (r *Reader) End() api.Errno {
	if r.Left() > 0 {
		r.fail(api.ErrForm)
	}
	return r.Err()
}

// fail lets go of what is left, so that nothing more is read; an error ahead of it stays.
func (r *Reader) fail(err api.Errno) {
	if r.Err() == api.OK {
		*r = Reader{err: err}
	}
}

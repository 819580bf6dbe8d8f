package tree

import (
	"gharry/api"
	"gharry/pack"
)

const (
	headPage  = 0
	pageWidth = 2 // the bytes of a page's number
	byteBits  = 8
)

// head is what page 0 tells: the root's page, and a bit for each page that is used.
type head struct {
	root int
	used [api.PageBytes - pageWidth]byte
}

// headOf is what a page 0 that is there tells.
func headOf(text string) head {
	r := pack.Read(text)
	h := head{root: r.Num(pageWidth)}
	copy(h.used[:], r.Raw(len(h.used)))
	return h
}

func (h *head) text() string {
	text, _ := pack.Put("", h.root, pageWidth) // a page of a store fits
	return text + string(h.used[:])
}

// uses is asked for pages of a store alone: there is a bit for each.
func (h *head) uses(id int) bool { return h.used[id/byteBits]>>(id%byteBits)&1 == 1 }

func (h *head) use(id int) { h.used[id/byteBits] |= 1 << (id % byteBits) }

func (h *head) drop(id int) { h.used[id/byteBits] &^= 1 << (id % byteBits) }

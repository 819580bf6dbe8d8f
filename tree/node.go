package tree

import (
	"gharry/api"
	"gharry/pack"
	"gharry/page"
)

// span is keys that are not lesser than lo, and lesser than hi (an empty one: no end).
type span struct{ lo, hi string }

func (s span) has(key string) bool { return key >= s.lo && (s.hi == "" || key < s.hi) }

// node is a page of a tree, and the keys that may stand in it and below.
type node struct {
	id    int
	text  string
	level int
	cells []api.Cell
	keys  span
	next  int // of a page above others on a way: the cell by which it goes on
}

// isRight tells whether the page may stand where it does; what is below is not asked.
func (n *node) isRight() bool {
	told := n.cells
	switch page.Kind(n.text) {
	case page.Leaf:
	case page.Inner:
		if n.level == 0 || len(told) == 0 || told[0].Key != "" {
			return false
		}
		told = told[1:]
	default:
		return false
	}
	for _, c := range told {
		if !n.keys.has(c.Key) {
			return false
		}
	}
	return true
}

// toward is the cell of an inner page below which a key is, or would be. As the first
// one's key is empty, there is always one.
func (n *node) toward(key string) int {
	i, is := page.Find(n.text, key)
	if !is {
		i--
	}
	return i
}

// below are the keys that may stand below the i-th cell.
func (n *node) below(i int) span {
	s := n.keys
	if i > 0 {
		s.lo = n.cells[i].Key
	}
	if i+1 < len(n.cells) {
		s.hi = n.cells[i+1].Key
	}
	return s
}

// between are the cells from a key to another one (no end, if that is empty).
func (n *node) between(lo, hi string) []api.Cell {
	var cells []api.Cell
	for _, c := range n.cells {
		if c.Key >= lo && (hi == "" || c.Key <= hi) {
			cells = append(cells, c)
		}
	}
	return cells
}

// cellOf is the cell of a page below.
func cellOf(key string, id int) api.Cell {
	val, _ := pack.Put("", id, pageWidth) // a page of a store fits
	return api.Cell{Key: key, Val: val}
}

// pageOf is the page that a cell tells; page 0, which is never below another one, if it
// tells none.
func pageOf(c api.Cell) int {
	r := pack.Read(c.Val)
	id := r.Num(pageWidth)
	if r.End() != api.OK {
		return headPage
	}
	return id
}

func needOf(cells []api.Cell) int {
	need := 0
	for _, c := range cells {
		need += page.Need(c)
	}
	return need
}

// without is cells but for the i-th. The key of a first one goes to the next, as all keys
// ahead of that are to be found there now.
func without(cells []api.Cell, i int) []api.Cell {
	left := append(cells[:i:i], cells[i+1:]...)
	if i == 0 && len(left) > 0 {
		left[0].Key = cells[0].Key
	}
	return left
}

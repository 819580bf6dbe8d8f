package tree

import (
	"cmp"
	"slices"

	"gharry/api"
	"gharry/page"
)

const anyLevel = -1

// builder gathers the pages of a tree that are laid together; all others it has as they
// are. Whatever errs does so ahead of the first change.
type builder struct {
	tree   *Tree
	head   head
	images []api.Image // the lesser pages first
}

func (b *builder) find(id int) (int, bool) {
	return slices.BinarySearchFunc(b.images, id, func(image api.Image, id int) int {
		return cmp.Compare(image.Page, id)
	})
}

func (b *builder) page(id int) (string, api.Errno) {
	if i, is := b.find(id); is {
		return b.images[i].Text, api.OK
	}
	return b.tree.page(id)
}

// put gathers a page; a later one takes the place of an earlier one.
func (b *builder) put(id int, text string) {
	i, is := b.find(id)
	if is {
		b.images[i].Text = text
		return
	}
	b.images = slices.Insert(b.images, i, api.Image{Page: id, Text: text})
}

// putCells gathers a page of cells.
func (b *builder) putCells(id, kind, level int, cells []api.Cell) api.Errno {
	text, err := page.Make(kind, level, cells)
	if err != api.OK {
		return err
	}
	b.put(id, text)
	return api.OK
}

// take is the least page that nobody used.
func (b *builder) take() (int, api.Errno) {
	for id := range b.tree.pool.Pages() {
		if id != headPage && !b.head.uses(id) {
			b.head.use(id)
			return id, api.OK
		}
	}
	return 0, api.ErrFull
}

// free lets nobody use a page any more.
func (b *builder) free(id int) api.Errno {
	b.head.drop(id)
	return b.putCells(id, page.Free, 0, nil)
}

// lay lays all that was gathered; nothing, if nothing was.
func (b *builder) lay() api.Errno {
	if len(b.images) == 0 {
		return api.OK
	}
	b.put(headPage, b.head.text())
	return b.tree.lay(api.RecShape, b.images...)
}

// plant lays a tree of an empty leaf.
func (b *builder) plant() api.Errno {
	root, err := b.take()
	if err != api.OK {
		return err
	}
	if err := b.putCells(root, page.Leaf, 0, nil); err != api.OK {
		return err
	}
	b.head.root = root
	return b.lay()
}

// node is a page that must be of a level, with those keys.
func (b *builder) node(id, level int, keys span) (node, api.Errno) {
	if id <= headPage || id >= b.tree.pool.Pages() || !b.head.uses(id) {
		return node{}, api.ErrDamage
	}
	text, err := b.page(id)
	if err != api.OK {
		return node{}, err
	}
	n := node{id: id, text: text, level: page.Level(text), cells: page.Cells(text), keys: keys}
	if !n.isRight() || level != anyLevel && n.level != level {
		return node{}, api.ErrDamage
	}
	return n, api.OK
}

func (b *builder) root() (node, api.Errno) {
	return b.node(b.head.root, anyLevel, span{})
}

// below is the page below the i-th cell of another one. As each level is one less than
// that above, every way ends.
func (b *builder) below(n node, i int) (node, api.Errno) {
	return b.node(pageOf(n.cells[i]), n.level-1, n.below(i))
}

// way is the pages from the root to the leaf of a key.
func (b *builder) way(key string) ([]node, api.Errno) {
	var way []node
	n, err := b.root()
	for err == api.OK && n.level > 0 {
		n.next = n.toward(key)
		way = append(way, n)
		n, err = b.below(n, n.next)
	}
	if err != api.OK {
		return nil, err
	}
	return append(way, n), api.OK
}

// meet notes a page and all below it; false, if one is met twice, or may not stand there.
func (b *builder) meet(n node, met *head) bool {
	if met.uses(n.id) {
		return false
	}
	met.use(n.id)
	if n.level == 0 {
		return true
	}
	for i := range n.cells {
		below, err := b.below(n, i)
		if err != api.OK || !b.meet(below, met) {
			return false
		}
	}
	return true
}

// wayWithRoom is the way of a key whose leaf has room for so many bytes: it is parted as
// long as it must be.
func (b *builder) wayWithRoom(key string, need int) ([]node, api.Errno) {
	way, err := b.way(key)
	for err == api.OK && page.Room(way[len(way)-1].text) < need {
		if err = b.part(way); err == api.OK {
			way, err = b.way(key)
		}
	}
	return way, err
}

// part puts the leaf of a way in halves.
func (b *builder) part(way []node) api.Errno {
	first, second, key, err := page.Halves(way[len(way)-1].text)
	if err != api.OK {
		return err
	}
	return b.split(way, first, second, key)
}

// split puts two halves in the place of the last page of a way, the second one in a page
// that nobody used.
func (b *builder) split(way []node, first, second, key string) api.Errno {
	last := len(way) - 1
	id, err := b.take()
	if err != api.OK {
		return err
	}
	b.put(way[last].id, first)
	b.put(id, second)
	if last == 0 {
		return b.crown(way[0], cellOf(key, id))
	}
	return b.give(way[:last], cellOf(key, id))
}

// give gives a cell to the last page of a way: in halves, if it has no room.
func (b *builder) give(way []node, c api.Cell) api.Errno {
	above := way[len(way)-1]
	text, err := page.Insert(above.text, c)
	if err == api.OK {
		b.put(above.id, text)
	}
	if err != api.ErrFull {
		return err
	}
	first, second, key, err := page.Halves(above.text)
	if err != api.OK {
		return err
	}
	second, err = leftmost(second)
	if err != api.OK {
		return err
	}
	half := &first
	if c.Key > key {
		half = &second
	}
	if *half, err = page.Insert(*half, c); err != api.OK {
		return err
	}
	return b.split(way, first, second, key)
}

// leftmost is an inner page whose first key is empty, as it has gone up.
func leftmost(text string) (string, api.Errno) {
	cells := page.Cells(text)
	cells[0].Key = ""
	return page.Make(page.Inner, page.Level(text), cells)
}

// crown puts a root above the one that was parted.
func (b *builder) crown(root node, second api.Cell) api.Errno {
	id, err := b.take()
	if err != api.OK {
		return err
	}
	b.head.root = id
	return b.putCells(id, page.Inner, root.level+1, []api.Cell{cellOf("", root.id), second})
}

// tidy tidies the leaf of a way.
func (b *builder) tidy(way []node) api.Errno {
	need := needOf(way[len(way)-1].cells)
	err := api.OK
	switch {
	case isOnly(way): // no leaf would be left, and none stands beside it
	case need == 0:
		err = b.drop(way)
	case need <= thinNeed:
		err = b.join(way)
	}
	if err != api.OK {
		return err
	}
	if err := b.lower(); err != api.OK {
		return err
	}
	return b.lay()
}

// isOnly tells whether the leaf of a way is the only one of the tree.
func isOnly(way []node) bool {
	for _, n := range way {
		if n.level > 0 && len(n.cells) > 1 {
			return false
		}
	}
	return true
}

// drop lets the last page of a way go, and all above that are empty then. Somewhere above
// another page must be left.
func (b *builder) drop(way []node) api.Errno {
	last := len(way) - 1
	if err := b.free(way[last].id); err != api.OK {
		return err
	}
	above := way[last-1]
	if len(above.cells) == 1 {
		return b.drop(way[:last])
	}
	return b.cut(above, above.next)
}

// cut takes a cell out of an inner page.
func (b *builder) cut(n node, i int) api.Errno {
	return b.putCells(n.id, page.Inner, n.level, without(n.cells, i))
}

// join lays the leaf of a way together with the one on its right, else on its left.
func (b *builder) join(way []node) api.Errno {
	leaf, above := way[len(way)-1], way[len(way)-2]
	for _, i := range []int{above.next + 1, above.next - 1} {
		if i < 0 || i >= len(above.cells) {
			continue
		}
		beside, err := b.below(above, i)
		if err != api.OK {
			return err
		}
		if needOf(leaf.cells)+needOf(beside.cells) > joinNeed {
			continue
		}
		if i < above.next {
			return b.merge(above, i, beside, leaf)
		}
		return b.merge(above, above.next, leaf, beside)
	}
	return api.OK
}

// merge lays two leaves in the left one, which stands below the i-th cell above.
func (b *builder) merge(above node, i int, left, right node) api.Errno {
	if err := b.putCells(left.id, page.Leaf, 0, slices.Concat(left.cells, right.cells)); err != api.OK {
		return err
	}
	if err := b.free(right.id); err != api.OK {
		return err
	}
	return b.cut(above, i+1)
}

// lower lets a root with one page below be none any more.
func (b *builder) lower() api.Errno {
	root, err := b.root()
	for err == api.OK && root.level > 0 && len(root.cells) == 1 {
		if err = b.free(root.id); err != api.OK {
			return err
		}
		root, err = b.below(root, 0)
		b.head.root = root.id
	}
	return err
}

package btree

import (
	"slices"

	"buttery/api"
	"buttery/node"
	"buttery/pager"
)

// least is how many bytes a node has at least, but for the root. Joined with the one beside it
// and cut again, if that is too much for a page, it has more; and so has each half of a node
// that grew too great.
const least = 128

// change is a change of what a key has.
type change struct {
	writer
	way []step
	is  bool  // whether the key has a value
	old []int // the long pages of that
}

// begin is a change that may begin: all pages that it may come to were read, and are such as a
// tree has, so that nothing is in its way any more. Till then nothing was changed.
func (t *Tree) begin(key string) (*change, api.Errno) {
	w := t.walk()
	way, is, err := w.down(key)
	if err == api.OK {
		err = w.lookBeside(way)
	}
	var old []int
	if err == api.OK && is {
		leaf := way[len(way)-1]
		_, old, err = w.value(leaf.Cells[leaf.at])
	}
	if err != api.OK {
		return nil, err
	}
	return &change{writer: writer{pager: t.pager}, way: way, is: is, old: old}, api.OK
}

// dropOld drops the long pages of the value that is there.
func (c *change) dropOld() {
	for _, n := range c.old {
		c.drop(n)
	}
}

// replace lets one cell, or none, be in the place of the key's cell.
func (c *change) replace(cells ...node.Cell) {
	leaf := &c.way[len(c.way)-1]
	end := leaf.at
	if c.is {
		end++
	}
	leaf.Cells = slices.Replace(leaf.Cells, leaf.at, end, cells...)
	c.climb(c.way)
}

// climb writes the node at the end of a way down, which was changed, and on the way up what
// has to be changed with it: one that is too great is cut, one that is too small is joined
// with the one beside it. Both changes the branch above; else the way ends.
func (w *writer) climb(way []step) {
	for len(way) > 1 {
		last := len(way) - 1
		s := way[last]
		way = way[:last:last]
		up := &way[last-1]
		size := node.Size(s.Node)
		switch {
		case size > api.SectorSize:
			w.cut(s, up)
		case size < least:
			w.join(s, up)
		default:
			w.writeNode(s.page, s.Node)
			return
		}
	}
	w.crown(way[0])
}

// cut cuts a node in two; the second one goes into a page of its own.
func (w *writer) cut(s step, up *step) {
	a, key, b := node.Cut(s.Node)
	page := w.take()
	w.writeNode(s.page, a)
	w.writeNode(page, b)
	up.Cells = slices.Insert(up.Cells, up.at, node.Cell{Key: key})
	up.Kids = slices.Insert(up.Kids, up.at+1, page)
}

// join joins a node with the one beside it. If that is too much for one page, it is cut anew,
// so that the two are about alike.
func (w *writer) join(s step, up *step) {
	at, a, b := up.at, s.sheet, s.beside
	if at > 0 {
		at, a, b = at-1, s.beside, s.sheet
	}
	both := node.Join(a.Node, up.Cells[at].Key, b.Node)
	if node.Size(both) > api.SectorSize {
		first, key, second := node.Cut(both)
		w.writeNode(a.page, first)
		w.writeNode(b.page, second)
		up.Cells[at].Key = key
		return
	}
	w.writeNode(a.page, both)
	w.drop(b.page)
	up.Cells = slices.Delete(up.Cells, at, at+1)
	up.Kids = slices.Delete(up.Kids, at+1, at+2)
}

// crown writes the root, which was changed. If it has no cell any more, its only kid is the
// root, or nothing; if it is too great, a branch above its halves.
func (w *writer) crown(s step) {
	switch {
	case len(s.Cells) == 0 && s.Leaf:
		w.setRoot(0)
		w.drop(s.page)
	case len(s.Cells) == 0:
		w.setRoot(s.Kids[0])
		w.drop(s.page)
	case node.Size(s.Node) > api.SectorSize:
		top := step{sheet: sheet{Node: node.Node{Kids: []int{s.page}}}}
		w.cut(s, &top)
		w.plant(top)
	case s.page == 0:
		w.plant(s)
	default:
		w.writeNode(s.page, s.Node)
	}
}

// plant takes a page for a node that is the root from then on.
func (w *writer) plant(s step) {
	page := w.take()
	w.writeNode(page, s.Node)
	w.setRoot(page)
}

// writer changes pages, till the pager answers an error: from then on it does nothing.
type writer struct {
	pager *pager.Pager
	err   api.Errno
}

// do does something, if there was no error.
func (w *writer) do(what func() api.Errno) {
	if w.err == api.OK {
		w.err = what()
	}
}

// take takes a page.
func (w *writer) take() int {
	page := 0
	w.do(func() (err api.Errno) {
		page, err = w.pager.Alloc()
		return err
	})
	return page
}

// drop drops a page.
func (w *writer) drop(page int) { w.do(func() api.Errno { return w.pager.Drop(page) }) }

// setRoot lets a page be the root, or none.
func (w *writer) setRoot(page int) { w.do(func() api.Errno { return w.pager.SetRoot(page) }) }

// write writes a page.
func (w *writer) write(page int, b []byte) { w.do(func() api.Errno { return w.pager.Write(page, b) }) }

// writeNode writes a node into a page.
func (w *writer) writeNode(page int, n node.Node) {
	w.do(func() api.Errno {
		b, err := node.Encode(n)
		if err != api.OK {
			return err
		}
		return w.pager.Write(page, append(b, make([]byte, api.SectorSize-len(b))...))
	})
}

package btree

import (
	"buttery/api"
	"buttery/node"
	"buttery/pager"
)

// deepest is how many levels a tree has at most: of one more, in which all leaves are equally
// deep and each branch has two kids, there are more nodes than a disk has pages.
const deepest = 15

// span are the keys from one on, below another one (empty: to the end).
type span struct{ from, to string }

// has says whether a key is one of them.
func (s span) has(key string) bool { return key >= s.from && s.endsAbove(key) }

// endsAbove says whether they go on above a key.
func (s span) endsAbove(key string) bool { return s.to == "" || key < s.to }

// meets says whether there may be keys in both.
func (s span) meets(o span) bool { return s.endsAbove(o.from) && o.endsAbove(s.from) }

// sheet is a node, the page in which it stands, how deep that is (the root: 1), and the keys
// that belong there.
type sheet struct {
	node.Node
	page, level int
	within      span
}

// fits says whether a node has a cell, and its keys all belong there; of a branch there are
// some ahead of the first one, too. So no node stands at two places of a tree.
func (s sheet) fits() bool {
	if len(s.Cells) == 0 {
		return false
	}
	first, last := s.Cells[0].Key, s.Cells[len(s.Cells)-1].Key
	return s.within.has(first) && s.within.has(last) && (s.Leaf || first > s.within.from)
}

// under are the keys that belong under a branch's kid.
func (s sheet) under(kid int) span {
	u := s.within
	if kid > 0 {
		u.from = s.Cells[kid-1].Key
	}
	if kid < len(s.Cells) {
		u.to = s.Cells[kid].Key
	}
	return u
}

// step is a node on the way down to a key.
type step struct {
	sheet
	at     int   // of a branch: the kid to which the way goes on; of a leaf: the key's place
	beside sheet // what stands to its left under the same branch; of a first kid, to its right
}

// walk reads pages of a tree. What can't be of one it refuses: a page to which it is led twice,
// and leaves that are not equally deep.
type walk struct {
	pager  *pager.Pager
	seen   map[int]struct{}
	leaves int // how deep they are; 0: none was seen
}

// walk begins one.
func (t *Tree) walk() *walk { return &walk{pager: t.pager, seen: map[int]struct{}{}} }

// page are the bytes of a page to which the tree leads.
func (w *walk) page(n int) ([]byte, api.Errno) {
	if _, ok := w.seen[n]; ok {
		return nil, api.ErrForm
	}
	w.seen[n] = struct{}{}
	b, err := w.pager.Read(n)
	if err == api.ErrArg { // it is not in use: that is the tree's fault, not the caller's
		err = api.ErrForm
	}
	return b, err
}

// sheet is the node that stands in a page.
func (w *walk) sheet(page, level int, within span) (sheet, api.Errno) {
	b, err := w.page(page)
	if err != api.OK {
		return sheet{}, err
	}
	n, err := node.Decode(b)
	s := sheet{n, page, level, within}
	if err == api.OK && !(s.fits() && w.deepEnough(s)) {
		err = api.ErrForm
	}
	return s, err
}

// deepEnough says whether a leaf is as deep as the others, and a branch less deep.
func (w *walk) deepEnough(s sheet) bool {
	if s.Leaf && w.leaves == 0 {
		w.leaves = s.level
	}
	if w.leaves == 0 {
		return s.level < deepest
	}
	return s.Leaf == (s.level == w.leaves)
}

// kid is a branch's kid.
func (w *walk) kid(s sheet, i int) (sheet, api.Errno) {
	return w.sheet(s.Kids[i], s.level+1, s.under(i))
}

// down is the way down to a key, from the root to the leaf where it belongs, and whether it is
// there. In an empty tree that is a leaf without a page.
func (w *walk) down(key string) ([]step, bool, api.Errno) {
	root := w.pager.Root()
	if root == 0 {
		return []step{{sheet: sheet{Node: node.Node{Leaf: true}}}}, false, api.OK
	}
	var way []step
	s, err := w.sheet(root, 1, span{})
	for err == api.OK {
		at, is := node.Find(s.Node, key)
		if is && !s.Leaf { // a branch's key is the first one that may stand behind it
			at++
		}
		way = append(way, step{sheet: s, at: at})
		if s.Leaf {
			return way, is, api.OK
		}
		s, err = w.kid(s, at)
	}
	return nil, false, err
}

// lookBeside finds what stands beside the nodes of a way.
func (w *walk) lookBeside(way []step) api.Errno {
	for i := 1; i < len(way); i++ {
		up := way[i-1]
		other := 1
		if up.at > 0 {
			other = up.at - 1
		}
		s, err := w.kid(up.sheet, other)
		if err != api.OK {
			return err
		}
		way[i].beside = s
	}
	return api.OK
}

// cells are the cells of a range that stand under a node, behind those that there are.
func (w *walk) cells(s sheet, asked span, l []Cell) ([]Cell, api.Errno) {
	if s.Leaf {
		return w.leafCells(s, asked, l)
	}
	for i := range s.Kids {
		if !asked.meets(s.under(i)) {
			continue
		}
		kid, err := w.kid(s, i)
		if err == api.OK {
			l, err = w.cells(kid, asked, l)
		}
		if err != api.OK {
			return nil, err
		}
	}
	return l, api.OK
}

// leafCells are the cells of a range in a leaf, behind those that there are.
func (w *walk) leafCells(s sheet, asked span, l []Cell) ([]Cell, api.Errno) {
	for _, c := range s.Cells {
		if !asked.has(c.Key) {
			continue
		}
		value, _, err := w.value(c)
		if err != api.OK {
			return nil, err
		}
		l = append(l, Cell{c.Key, value})
	}
	return l, api.OK
}

package btree_test

import (
	"bytes"
	"slices"
	"testing"

	"buttery/api"
	"buttery/btree"
	"buttery/node"
	"buttery/pager"
)

// shape is what a tree is found to be, by its pages alone.
type shape struct {
	cells  []btree.Cell
	levels int
	nodes  int
	long   int // how many long pages it has
	least  int // the size of its least node beside the root
	most   int // and of its greatest node
}

// looker looks at a tree's pages, by the chapter's words.
type looker struct {
	t    *testing.T
	what string
	p    *pager.Pager
	seen map[int]bool
	shape
}

// pages are how many pages it has.
func (s shape) pages() int { return s.nodes + s.long }

// shapeOf is a tree's shape; all is asked that the chapter promises of it. Beside its own
// pages so many others are in use (-1: any number).
func shapeOf(t *testing.T, what string, p *pager.Pager, others int) shape {
	t.Helper()
	l := &looker{t: t, what: what, p: p, seen: map[int]bool{}}
	l.least = api.SectorSize
	if p.Root() != 0 {
		l.node(p.Root(), 1, "", "")
		if len(l.cells) == 0 {
			t.Fatalf("%s: a root, but no pairs", what)
		}
	}
	if used := p.Pages() - 1 - p.Free(); others >= 0 && used != len(l.seen)+others {
		t.Fatalf("%s: %d pages are in use, but the tree has %d (and there are %d others)", what, used, len(l.seen), others)
	}
	return l.shape
}

// read is a page that is in use once.
func (l *looker) read(n int) []byte {
	l.t.Helper()
	if l.seen[n] {
		l.t.Fatalf("%s: the page %d is used twice", l.what, n)
	}
	l.seen[n] = true
	b, err := l.p.Read(n)
	must(l.t, l.what+": pager.Read", err, api.OK)
	return b
}

// node looks at a node, and what is below it: keys from low on, below high (empty: to the end).
func (l *looker) node(at, level int, low, high string) {
	l.t.Helper()
	b := l.read(at)
	n, err := node.Decode(b)
	must(l.t, l.what+": node.Decode", err, api.OK)
	if !bytes.Equal(b, page(l.t, n)) {
		l.t.Fatalf("%s: the page %d is not a node's bytes and noughts", l.what, at)
	}
	l.nodes++
	l.weigh(at, n)
	for _, c := range n.Cells {
		if c.Key < low || high != "" && c.Key >= high {
			l.t.Fatalf("%s: the key %s stands at the page %d, from %s to %s", l.what, shown(c.Key), at, shown(low), shown(high))
		}
	}
	if n.Leaf {
		l.leaf(n, level)
		return
	}
	for i, kid := range n.Kids {
		from, to := low, high
		if i > 0 {
			from = n.Cells[i-1].Key
		}
		if i < len(n.Cells) {
			to = n.Cells[i].Key
		}
		l.node(kid, level+1, from, to)
	}
}

// weigh asks for a node's size and its cells.
func (l *looker) weigh(at int, n node.Node) {
	l.t.Helper()
	size := node.Size(n)
	l.most = max(l.most, size)
	if at != l.p.Root() {
		l.least = min(l.least, size)
	}
	if l.least < least {
		l.t.Fatalf("%s: the node in the page %d has %d bytes", l.what, at, size)
	}
	if len(n.Cells) == 0 {
		l.t.Fatalf("%s: the node in the page %d has no cell", l.what, at)
	}
}

// leaf gathers a leaf's cells.
func (l *looker) leaf(n node.Node, level int) {
	l.t.Helper()
	if l.levels == 0 {
		l.levels = level
	}
	if l.levels != level {
		l.t.Fatalf("%s: leaves at the levels %d and %d", l.what, l.levels, level)
	}
	for _, c := range n.Cells {
		v := c.Value
		if c.Long > 0 {
			v = l.longValue(c)
		}
		l.cells = append(l.cells, btree.Cell{Key: c.Key, Value: v})
	}
}

// longValue is a value that stands in long pages.
func (l *looker) longValue(c node.Cell) string {
	l.t.Helper()
	if c.Size <= inline || c.Size > maxValue {
		l.t.Fatalf("%s: %d bytes stand in long pages", l.what, c.Size)
	}
	v := ""
	for at := c.Long; at != 0; {
		b := l.read(at)
		l.long++
		n := min(c.Size-len(v), data)
		if n <= 0 {
			l.t.Fatalf("%s: a long page behind the end of a value", l.what)
		}
		v += string(b[4 : 4+n])
		at = int(b[0])<<24 | int(b[1])<<16 | int(b[2])<<8 | int(b[3])
	}
	if len(v) != c.Size {
		l.t.Fatalf("%s: %d bytes of %d stand in long pages", l.what, len(v), c.Size)
	}
	return v
}

// mustBe asks that a pager's tree is sound, and has just these pairs.
func mustBe(t *testing.T, what string, p *pager.Pager, m mind) shape {
	t.Helper()
	s := shapeOf(t, what, p, 0)
	if want := m.cells("", ""); !slices.Equal(s.cells, want) {
		t.Fatalf("%s: %s, want %s", what, shownCells(s.cells), shownCells(want))
	}
	return s
}

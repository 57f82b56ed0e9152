package node

import "slices"

// Cut cuts it in two.
func Cut(n Node) (Node, string, Node) {
	first := firstPlace(n)
	if first >= len(n.Cells) {
		return copied(n), "", Node{}
	}
	at := lightest(first, len(n.Cells), unlike(n))
	a, b := halves(n, at)
	return copied(a), n.Cells[at].Key, copied(b)
}

// firstPlace is the first place at which a node can be cut: a leaf's halves have a cell
// each, of a branch's ones each may have kids alone.
func firstPlace(n Node) int {
	if n.Leaf {
		return 1
	}
	return 0
}

// halves are what stands ahead of a place, and what stands from there on; of a branch the
// cell at that place goes to neither. They share the node's lists.
func halves(n Node, place int) (Node, Node) {
	if n.Leaf {
		return Node{Leaf: true, Cells: n.Cells[:place]}, Node{Leaf: true, Cells: n.Cells[place:]}
	}
	kids := min(place+1, len(n.Kids))
	return Node{Cells: n.Cells[:place], Kids: n.Kids[:kids]}, Node{Cells: n.Cells[place+1:], Kids: n.Kids[kids:]}
}

// copied is a node with lists of its own.
func copied(n Node) Node {
	return Node{Leaf: n.Leaf, Cells: slices.Clone(n.Cells), Kids: slices.Clone(n.Kids)}
}

// unlike weighs places: it tells by how many bytes the halves would differ. Sizes are added
// up once, so that a long node is not gone through again for each of its places.
func unlike(n Node) func(place int) int {
	cells := sumsOf(n.Cells, func(c Cell) int { return cellSize(c, n.Leaf) })
	kids := sumsOf(n.Kids, countSize)
	return func(place int) int {
		a, b := halves(n, place)
		first := headSize(len(a.Cells)) + cells.first(len(a.Cells)) + kids.first(len(a.Kids))
		second := headSize(len(b.Cells)) + cells.last(len(b.Cells)) + kids.last(len(b.Kids))
		return max(first-second, second-first)
	}
}

// lightest is the place from one on, below another one, that weighs least; the first of
// these.
func lightest(from, to int, weigh func(place int) int) int {
	at, least := from, weigh(from)
	for place := from + 1; place < to; place++ {
		if w := weigh(place); w < least {
			at, least = place, w
		}
	}
	return at
}

// sums are the sizes of a list's first things: of none, of one, and so on.
type sums []int

// sumsOf are the sums of a list's sizes.
func sumsOf[T any](l []T, size func(T) int) sums {
	s := sums{0}
	for i, x := range l {
		s = append(s, s[i]+size(x))
	}
	return s
}

// first is the size of the first n things.
func (s sums) first(n int) int { return s[n] }

// last is the size of the last n things.
func (s sums) last(n int) int { return s[len(s)-1] - s[len(s)-1-n] }

// Join joins two.
func Join(a Node, sep string, b Node) Node {
	if a.Leaf {
		return Node{Leaf: true, Cells: slices.Concat(a.Cells, b.Cells)}
	}
	return Node{
		Cells: slices.Concat(a.Cells, []Cell{{Key: sep}}, b.Cells),
		Kids:  slices.Concat(a.Kids, b.Kids),
	}
}

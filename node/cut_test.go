package node_test

import (
	"math"
	"slices"
	"testing"

	"buttery/api"
	"buttery/node"
)

// mustCutAt asks that a node is cut at a place: a leaf's cells up to it, a branch's ahead of
// the one that stands there, and so many of its kids.
func mustCutAt(t *testing.T, n node.Node, at, kids int) {
	t.Helper()
	behind := at
	if !n.Leaf {
		behind++
	}
	mustCut(t, n, node.Node{Leaf: n.Leaf, Cells: n.Cells[:at], Kids: n.Kids[:kids]}, n.Cells[at].Key,
		node.Node{Leaf: n.Leaf, Cells: n.Cells[behind:], Kids: n.Kids[kids:]})
}

// P6.3: a leaf is cut where its halves' sizes are most alike; of places that are alike at the
// first one.
func TestCutOfLeaves(t *testing.T) {
	a, b, c, d := cell("a", "1"), cell("b", "2"), cell("c", "3"), cell("d", "4")
	big := func(key string) node.Cell { return cell(key, text('v', 64)) }
	for _, x := range []struct {
		n  node.Node
		at int
	}{
		{leaf(a, b), 1},
		{leaf(a, b, c), 1}, // both places are alike
		{leaf(a, b, c, d), 2},
		{leaf(big("a"), b), 1},
		{leaf(a, big("b")), 1},
		{leaf(big("a"), b, c, d), 1},
		{leaf(a, b, c, big("d")), 3},
		{leaf(a, big("b"), c, d), 2},
		{leaf(a, b, big("c"), d), 2},
		{leaf(big("a"), big("b"), c, d), 1},
		{leaf(a, b, big("c"), big("d")), 3},
		{leaf(cell("a", "22"), b, cell("c", "1")), 1},
		{leaf(cell("a", "1"), b, cell("c", "22")), 2},
		{leaf(cell("a", ""), cell("b", ""), cell("c", ""), cell("d", ""), cell("e", "")), 2},
		// What stands elsewhere counts as what is written of it, not as how long it is.
		{leaf(cell("a", "1"), long("b", 1, 1), long("c", 1, 2000)), 1},
		{leaf(cell("a", "22"), long("b", 1, 1), long("c", 1, 100)), 1},
		{leaf(long("a", 1, 2000), long("b", 1, 1), cell("c", "")), 1},
		{leaf(long("a", 1, 100), long("b", 1, 1), cell("c", "3")), 2},
		{leaf(long("a", 1, 1), long("b", 1, 1), long("c", 1<<30, 1<<30)), 2},
		{leaf(long("a", 1<<30, 1<<30), long("b", 1, 1), long("c", 1, 1)), 1},
		// Keys that don't rise, or are too long, are cut as others are.
		{leaf(d, c, b, a), 2},
		{leaf(cell(text('k', 300), ""), a, b), 1},
		{leaf(a, a, cell("a", text('v', 300))), 2},
	} {
		mustCutAt(t, x.n, x.at, 0)
	}
}

// P6.3: the count of its cells, too, is of a half's size: ahead of 128 it has a byte more.
func TestCutWeighsTheCountOfCells(t *testing.T) {
	// 764 bytes and 771, or 770 and 764: without that byte both places were alike.
	l := append([]node.Cell{cell("", text('v', 758))}, cells(128)...)
	mustCutAt(t, leaf(l...), 2, 0)
	// 638 bytes and 644, or 643 and 638: here too.
	b := branch(append([]string{text('k', 632)}, keys(129)...), make([]int, 131)...)
	mustCutAt(t, b, 2, 3)
	// Where the first half has 128, too, places are alike again.
	mustCutAt(t, leaf(cells(255)...), 127, 0)
	mustCutAt(t, branch(keys(256), make([]int, 257)...), 127, 128)
}

// P6.3: a branch loses a cell when it is cut; the kids ahead of that cell's go to the first.
func TestCutOfBranches(t *testing.T) {
	big := api.MaxCount
	for _, x := range []struct {
		n        node.Node
		at, kids int
	}{
		{branch([]string{"k"}, 3, 4), 0, 1},
		{branch([]string{"k", "m"}, 3, 4, 5), 0, 1}, // both are alike
		{branch([]string{"k", "l", "m"}, 3, 4, 5, 6), 1, 2},
		{branch([]string{"k", "l", "m", "n"}, 3, 4, 5, 6, 7), 1, 2},
		{branch([]string{"k", "m"}, big, 4, 5), 0, 1},
		{branch([]string{"k", "m"}, 3, 4, big), 1, 2},
		{branch([]string{"k", "m"}, 3, big, 5), 0, 1},
		{branch([]string{text('k', 48), "l", "m"}, 3, 4, 5, 6), 0, 1},
		{branch([]string{"k", "l", text('m', 48)}, 3, 4, 5, 6), 2, 3},
		{branch([]string{"k", text('l', 48), "m"}, 3, 4, 5, 6), 1, 2},
		// Fewer and more kids than cells and one.
		{branch([]string{"k"}), 0, 0},
		{branch([]string{"k"}, 3), 0, 1},
		{branch([]string{"k"}, 3, 4, 5), 0, 1},
		{branch([]string{"k", "l", "m"}), 1, 0},
		{branch([]string{"k", "l", "m"}, 3), 1, 1},
		{branch([]string{"k", "l", "m"}, 3, 4), 1, 2},
		{branch([]string{"k", "l", "m"}, 3, 4, 5, 6, 7, 8, 9), 1, 2}, // as alike as at the next one
		{branch([]string{"k", "l", "m"}, 3, 4, 5, 6, 7, 8, 9, 10), 2, 3},
		{branch([]string{"k", "l"}, 3, 4, 5, 6, 7, 8, 9), 1, 2},
		// A number that is no count has no byte.
		{branch([]string{"k", "m"}, -1, 4, 5), 1, 2},
		{branch([]string{"k", "m"}, 3, 4, -1), 0, 1},
		{branch([]string{"k", "m"}, 3, 4, big+1), 0, 1},
		{branch([]string{"k", "m"}, math.MaxInt, 4, 5), 1, 2},
		{branch([]string{"k", "m"}, math.MinInt, 4, 5), 1, 2},
		{branch([]string{"k", "k"}, 3, 4, 5), 0, 1},
	} {
		mustCutAt(t, x.n, x.at, x.kids)
	}
	// What a branch's cell has beside its key is not of its size, but it stays.
	odd := branch([]string{"k", "l", "m"}, 3, 4, 5, 6)
	odd.Cells[0].Value, odd.Cells[0].Long = text('v', 60), 7
	mustCutAt(t, odd, 1, 2)
}

// P6.3: of a leaf's cells whose numbers are no counts, too, there is no byte of these.
func TestCutOfLeavesThatMayNotBe(t *testing.T) {
	with := func(key string, at, size int) node.Cell {
		return node.Cell{Key: key, Value: text('v', 64), Long: at, Size: size}
	}
	for _, x := range []struct {
		n  node.Node
		at int
	}{
		// A Long that is not 0 stands in a value's stead, whatever it is.
		{leaf(with("a", -1, -1), cell("b", ""), cell("c", "")), 2},
		{leaf(with("a", 1, 1), cell("b", ""), cell("c", "")), 1},
		{leaf(with("a", math.MaxInt, 0), cell("b", ""), cell("c", "")), 2},
		{leaf(with("a", math.MinInt, math.MinInt), cell("b", ""), cell("c", "")), 2},
		{leaf(cell("a", ""), cell("b", ""), with("c", api.MaxCount+1, 1)), 1},
		{leaf(cell("a", ""), cell("b", ""), with("c", api.MaxCount, api.MaxCount)), 2},
		{leaf(cell("a", ""), cell("b", ""), with("c", 1, api.MaxCount+1)), 1},
		// A Size without a Long is not written.
		{leaf(long("a", 0, 1<<30), cell("b", ""), cell("c", "")), 1},
		{leaf(cell("a", ""), cell("b", ""), long("c", 0, 1<<30)), 1},
	} {
		mustCutAt(t, x.n, x.at, 0)
	}
	// A leaf has no kids: neither have its halves.
	n := leaf(cell("a", ""), cell("b", ""))
	n.Kids = []int{1, 2, 3}
	mustCut(t, n, leaf(n.Cells[:1]...), "b", leaf(n.Cells[1:]...))
}

// P6.3: what can't be cut is told as it is.
func TestCutOfWhatCannotBeCut(t *testing.T) {
	for _, n := range []node.Node{
		{},
		leaf(),
		leaf(cell("a", "1")),
		leaf(long("a", 7, 100)),
		branch(nil, 3),
		branch(nil, 3, 4, 5),
		branch(nil, -1),
		{Leaf: true, Kids: []int{1, 2}},
		{Leaf: true, Cells: []node.Cell{{Key: text('k', 90), Value: "v", Long: -1, Size: -1}}, Kids: []int{1, 2}},
	} {
		mustCut(t, n, n, "", node.Node{})
	}
}

// P6.4: what nodes are when joined, of whatever kinds they are.
func TestJoin(t *testing.T) {
	a, b := leaf(cell("a", "1"), long("b", 7, 100)), leaf(cell("c", ""))
	k, m := branch([]string{"k"}, 3, 4), branch([]string{"m", "n"}, 5, 6, 7)
	for _, x := range []struct {
		a    node.Node
		sep  string
		b    node.Node
		want node.Node
	}{
		{a, "c", b, leaf(cell("a", "1"), long("b", 7, 100), cell("c", ""))},
		{b, "", a, leaf(cell("c", ""), cell("a", "1"), long("b", 7, 100))},
		{a, "x", leaf(), a},
		{leaf(), "x", a, a},
		{leaf(), "x", leaf(), leaf()},
		{a, "x", a, leaf(slices.Concat(a.Cells, a.Cells)...)},

		{k, "l", m, branch([]string{"k", "l", "m", "n"}, 3, 4, 5, 6, 7)},
		{m, "", k, branch([]string{"m", "n", "", "k"}, 5, 6, 7, 3, 4)},
		{k, text('x', 99), k, branch([]string{"k", text('x', 99), "k"}, 3, 4, 3, 4)},
		{branch(nil, 3), "l", branch(nil, 4), branch([]string{"l"}, 3, 4)},
		{branch(nil), "l", branch(nil), branch([]string{"l"})},
		{node.Node{}, "", node.Node{}, branch([]string{""})},
		{k, "", node.Node{}, branch([]string{"k", ""}, 3, 4)},

		// A leaf and a branch: as the first one is.
		{a, "x", k, leaf(cell("a", "1"), long("b", 7, 100), cell("k", ""))},
		{a, "x", node.Node{}, a},
		{k, "x", b, branch([]string{"k", "x", "c"}, 3, 4)},
		{k, "x", a, node.Node{Cells: slices.Concat(k.Cells, []node.Cell{{Key: "x"}}, a.Cells), Kids: k.Kids}},
		{node.Node{Leaf: true, Kids: []int{1}}, "x", node.Node{Leaf: true, Kids: []int{2}}, leaf()},
		{k, "x", node.Node{Leaf: true, Kids: []int{-1}}, branch([]string{"k", "x"}, 3, 4, -1)},
	} {
		mustJoin(t, x.a, x.sep, x.b, x.want)
	}
}

// mustHalve asks that a node that may be is cut into two that may be, between which the key
// stands, and that joined they are the node.
func mustHalve(t *testing.T, n node.Node) {
	t.Helper()
	a, sep, b := node.Cut(n)
	mustJoin(t, a, sep, b, n)
	if !node.Check(a) || !node.Check(b) {
		t.Fatalf("Cut(%s): %s, %s: they may be: %v, %v", shown(n), shown(a), shown(b), node.Check(a), node.Check(b))
	}
	isBelow := func(c node.Cell) bool { return c.Key < sep }
	if slices.ContainsFunc(b.Cells, isBelow) || len(a.Cells) > 0 && !isBelow(a.Cells[len(a.Cells)-1]) {
		t.Fatalf("Cut(%s): %s, %q, %s", shown(n), shown(a), sep, shown(b))
	}
	if n.Leaf {
		mustBeAlike(t, n, a, b)
	}
}

// mustBeAlike asks that a leaf's halves are alike up to the size of its greatest cell.
func mustBeAlike(t *testing.T, n, a, b node.Node) {
	t.Helper()
	greatest := 0
	for _, c := range n.Cells {
		greatest = max(greatest, len(mindBytes(leaf(c)))-2)
	}
	if d := node.Size(a) - node.Size(b); d > greatest || -d > greatest {
		t.Fatalf("Cut of a leaf whose greatest cell has %d bytes: %d and %d bytes", greatest, node.Size(a), node.Size(b))
	}
}

// P6.6: halves are nodes that may be, parted by the key between them, and joined they are what
// was cut.
func TestHalves(t *testing.T) {
	l := slices.Concat(goods(4000, 5), goods(1000, 40), goods(100, 200))
	// Of 255 cells both halves' counts grow at one place: there halves may differ by a byte more.
	for many := range 255 {
		l = append(l, leaf(cells(many)...), branch(keys(many), make([]int, many+1)...))
	}
	halved := 0
	for _, n := range l {
		if n.Leaf && len(n.Cells) > 1 || !n.Leaf && len(n.Cells) > 0 {
			mustHalve(t, n)
			halved++
		}
	}
	if halved < len(l)/2 {
		t.Errorf("only %d of %d nodes were halved", halved, len(l))
	}
}

// P6.6: in a node of a sector, filled by whatever cells, both halves are small enough to be
// written.
func TestHalvesGoIntoSectors(t *testing.T) {
	r := row(66)
	for range 300 {
		n := node.Node{Leaf: r.next(2) == 1}
		if !n.Leaf {
			n.Kids = []int{1}
		}
		for i := 0; len(mindBytes(n)) <= api.SectorSize; i++ {
			n.Cells = append(n.Cells, r.goodCell(key(i)+r.text(one(&r, []int{0, 45})), n.Leaf))
			if !n.Leaf {
				n.Kids = append(n.Kids, one(&r, counts()))
			}
		}
		mustHalve(t, n)
		a, _, b := node.Cut(n)
		mustDecode(t, mustEncode(t, a), a)
		mustDecode(t, mustEncode(t, b), b)
	}
}

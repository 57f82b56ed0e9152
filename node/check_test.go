package node_test

import (
	"fmt"
	"math"
	"testing"

	"buttery/api"
	"buttery/node"
)

// P6.1: nodes that may be, and their sizes; and those that may not be, whose size is 0.
func TestCheckAndSize(t *testing.T) {
	for _, x := range []struct {
		what string
		n    node.Node
		size int
	}{
		{"a leaf without cells", leaf(), 2},
		{"a leaf of one cell", leaf(cell("k", "v")), 7},
		{"an empty key and value", leaf(cell("", "")), 5},
		{"many cells", leaf(cell("a", "1"), cell("ab", ""), long("b", 1, 1), cell("b\x00", "2")), 2 + 5 + 5 + 4 + 6},
		{"127 cells", leaf(cells(127)...), 2 + 127*6},
		{"128 cells", leaf(cells(128)...), 3 + 128*6},
		{"a key of 48 bytes", leaf(cell(text('k', 48), "")), 2 + 51},
		{"a key of 49 bytes", leaf(cell(text('k', 49), "")), 0},
		{"a long key behind a short one", leaf(cell("a", ""), cell(text('k', 49), "")), 0},
		{"a value of 64 bytes", leaf(cell("k", text('v', 64))), 2 + 68},
		{"a value of 65 bytes", leaf(cell("k", text('v', 65))), 0},
		{"two keys alike", leaf(cell("a", "1"), cell("a", "2")), 0},
		{"two empty keys", leaf(cell("", ""), cell("", "")), 0},
		{"two keys that fall", leaf(cell("b", ""), cell("a", "")), 0},
		{"keys that fall late", leaf(cell("a", ""), cell("c", ""), cell("b", "")), 0},
		{"a key that goes on behind a greater one", leaf(cell("b", ""), cell("aa", "")), 0},
		{"keys that rise by bytes above 127", leaf(cell("\x7f", ""), cell("\x80", ""), cell("\xff", "")), 2 + 3*4},

		{"Long and Size of 1", leaf(long("k", 1, 1)), 6},
		{"Long and Size of MaxCount", leaf(long("k", api.MaxCount, api.MaxCount)), 2 + 2 + 10},
		{"Long alone", leaf(long("k", 1, 0)), 0},
		{"Size alone", leaf(long("k", 0, 1)), 0},
		{"Long below 0", leaf(long("k", -1, 1)), 0},
		{"Long far below 0", leaf(long("k", math.MinInt, 1)), 0},
		{"Long above MaxCount", leaf(long("k", api.MaxCount+1, 1)), 0},
		{"Long far above MaxCount", leaf(long("k", math.MaxInt, 1)), 0},
		{"Size below 0", leaf(long("k", 1, -1)), 0},
		{"Size below 0 without Long", leaf(long("k", 0, -1)), 0},
		{"Size far below 0", leaf(long("k", 1, math.MinInt)), 0},
		{"Size above MaxCount", leaf(long("k", 1, api.MaxCount+1)), 0},
		{"Size far above MaxCount", leaf(long("k", 1, math.MaxInt)), 0},
		{"both below 0", leaf(long("k", -1, -1)), 0},
		{"Long and Size with a value", leaf(node.Cell{Key: "k", Value: "v", Long: 1, Size: 1}), 0},
		{"Long with a value", leaf(node.Cell{Key: "k", Value: "v", Long: 1}), 0},
		{"Size with a value", leaf(node.Cell{Key: "k", Value: "v", Size: 1}), 0},

		{"a branch without cells", branch(nil, 0), 3},
		{"a branch of one cell", branch([]string{"k"}, 1, 2), 6},
		{"an empty key", branch([]string{""}, 1, 2), 5},
		{"a branch of many cells", branch([]string{"k", "kk", "l"}, 1, 0, 128, api.MaxCount), 2 + 2 + 3 + 2 + 1 + 1 + 2 + 5},
		{"a branch of 128 cells", branch(keys(128), make([]int, 129)...), 3 + 128*4 + 129},
		{"kids alike", branch([]string{"k"}, 7, 7), 6},
		{"a branch's key of 48 bytes", branch([]string{text('k', 48)}, 1, 2), 2 + 49 + 2},
		{"a branch's key of 49 bytes", branch([]string{text('k', 49)}, 1, 2), 0},
		{"a branch's keys alike", branch([]string{"a", "a"}, 1, 2, 3), 0},
		{"a branch's keys that fall", branch([]string{"b", "a"}, 1, 2, 3), 0},
		{"a branch with a Value", node.Node{Cells: []node.Cell{cell("k", "v")}, Kids: []int{1, 2}}, 0},
		{"a branch with a Long", node.Node{Cells: []node.Cell{long("k", 1, 0)}, Kids: []int{1, 2}}, 0},
		{"a branch with a Size", node.Node{Cells: []node.Cell{long("k", 0, 1)}, Kids: []int{1, 2}}, 0},
		{"a branch with Long and Size", node.Node{Cells: []node.Cell{long("k", 1, 1)}, Kids: []int{1, 2}}, 0},
		{"a leaf with Kids", node.Node{Leaf: true, Cells: []node.Cell{cell("k", "")}, Kids: []int{1, 2}}, 0},
		{"a leaf without cells with a Kid", node.Node{Leaf: true, Kids: []int{1}}, 0},
		{"the zero node", node.Node{}, 0},
		{"as many kids as cells", branch([]string{"k"}, 1), 0},
		{"two kids more than cells", branch([]string{"k"}, 1, 2, 3), 0},
		{"no kids", branch([]string{"k"}), 0},
		{"two kids without cells", branch(nil, 1, 2), 0},
		{"a kid below 0", branch([]string{"k"}, 1, -1), 0},
		{"a kid far below 0", branch(nil, math.MinInt), 0},
		{"a first kid below 0", branch([]string{"k"}, -1, 1), 0},
		{"a kid of MaxCount", branch([]string{"k"}, api.MaxCount, 1), 10},
		{"a kid above MaxCount", branch([]string{"k"}, api.MaxCount+1, 1), 0},
		{"a kid far above MaxCount", branch(nil, math.MaxInt), 0},
	} {
		mustMeasure(t, x.what, x.n, x.size)
	}
}

// mustMeasure asks whether a node may be, by its size, and what its size is.
func mustMeasure(t *testing.T, what string, n node.Node, size int) {
	t.Helper()
	if got := node.Check(n); got != (size > 0) {
		t.Errorf("%s: Check: %v, want %v", what, got, size > 0)
	}
	if got := node.Size(n); got != size {
		t.Errorf("%s: Size: %d, want %d", what, got, size)
	}
}

// cells are n cells whose keys rise, of six bytes each.
func cells(n int) []node.Cell {
	l := make([]node.Cell, n)
	for i := range l {
		l[i] = cell(key(i), "")
	}
	return l
}

// P6.1: a node may be of whatever size, and Size tells it, also where no sector has room for it.
func TestSizeOfLongNodes(t *testing.T) {
	for _, many := range []int{1000, 1<<14 - 1, 1 << 14, 100000} {
		head := 3
		if many >= 1<<14 {
			head = 4
		}
		mustMeasure(t, fmt.Sprint("a leaf of ", many), leaf(cells(many)...), head+many*6)
		mustMeasure(t, fmt.Sprint("a branch of ", many), branch(keys(many), make([]int, many+1)...), head+many*4+many+1)
	}
}

package node_test

import (
	"slices"
	"testing"

	"buttery/node"
)

// P6.2: where keys belong: those of cells, those between them, below all and above all.
func TestFind(t *testing.T) {
	for _, n := range []node.Node{
		leaf(cell("b", "1"), long("d", 7, 100), cell("dd", "")),
		branch([]string{"b", "d", "dd"}, 1, 2, 3, 4),
	} {
		for _, x := range []struct {
			key string
			at  int
			is  bool
		}{
			{"", 0, false}, {"a", 0, false}, {"az", 0, false}, {"b", 0, true},
			{"b\x00", 1, false}, {"c", 1, false}, {"cz", 1, false}, {"d", 1, true},
			{"d\x00", 2, false}, {"dc", 2, false}, {"dd", 2, true},
			{"dd\x00", 3, false}, {"de", 3, false}, {"e", 3, false}, {"\xff", 3, false},
		} {
			mustFind(t, n, x.key, x.at, x.is)
		}
	}
	for _, n := range []node.Node{leaf(), branch(nil, 3), {}} {
		mustFind(t, n, "", 0, false)
		mustFind(t, n, "a", 0, false)
		mustFind(t, n, "\xff", 0, false)
	}
	empty := leaf(cell("", "1"), cell("\x00", "2"))
	mustFind(t, empty, "", 0, true)
	mustFind(t, empty, "\x00", 1, true)
	mustFind(t, empty, "\x00\x00", 2, false)
	above := leaf(cell("\x7f", ""), cell("\x80", ""), cell("\xff", ""))
	mustFind(t, above, "\x80", 1, true)
	mustFind(t, above, "\x81", 2, false)
}

// P6.2: also where the keys don't rise it is the first cell whose key is not below.
func TestFindWhereKeysDoNotRise(t *testing.T) {
	fall := leaf(cell("d", ""), cell("c", ""), cell("b", ""), cell("a", ""))
	mustFind(t, fall, "a", 0, false)
	mustFind(t, fall, "c", 0, false)
	mustFind(t, fall, "d", 0, true)
	mustFind(t, fall, "e", 4, false)
	mixed := branch([]string{"b", "a", "d", "c", "b", "e"}, 1)
	mustFind(t, mixed, "a", 0, false)
	mustFind(t, mixed, "b", 0, true)
	mustFind(t, mixed, "c", 2, false)
	mustFind(t, mixed, "d", 2, true)
	mustFind(t, mixed, "e", 5, true)
	alike := leaf(cell("a", "1"), cell("b", "2"), cell("b", "3"), cell("c", "4"), cell("b", "5"))
	mustFind(t, alike, "b", 1, true)
	mustFind(t, alike, "c", 3, true)
}

// P6.2: whatever the node and the key are.
func TestFindAsInMind(t *testing.T) {
	r := row(6)
	for _, n := range slices.Concat(drawn(2000, 6), drawn(300, 60)) {
		asked := []string{"", "\xff", text('z', 60), r.text(3), r.text(9)}
		for _, c := range n.Cells {
			asked = append(asked, c.Key, c.Key+"\x00", c.Key[:len(c.Key)/2], c.Key+"\xff")
		}
		for _, key := range asked {
			at, is := mindFind(n, key)
			mustFind(t, n, key, at, is)
		}
	}
}

// P6.7: in a node that may be each cell's key is found at its place.
func TestFound(t *testing.T) {
	long := []node.Node{leaf(cells(20000)...), branch(keys(300), make([]int, 301)...)}
	for _, n := range slices.Concat(goods(2000, 6), goods(300, 60), long) {
		if !node.Check(n) {
			t.Fatalf("%s may not be", shown(n))
		}
		for i := 0; i < len(n.Cells); i += 1 + len(n.Cells)/1000 {
			if at, is := node.Find(n, n.Cells[i].Key); at != i || !is {
				t.Fatalf("Find of the key at %d of %d: %d, %v", i, len(n.Cells), at, is)
			}
		}
	}
}

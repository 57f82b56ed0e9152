package node_test

import (
	"bytes"
	"testing"

	"buttery/api"
	"buttery/node"
)

// exampleLeaf is the leaf of the chapter's examples.
func exampleLeaf() node.Node { return leaf(cell("a", "1"), long("b", 7, 100)) }

// The chapter's first example: a leaf's bytes, and where keys belong.
func TestExampleOfBytes(t *testing.T) {
	l := exampleLeaf()
	want := fromHex(t, "01 02 01 61 00 01 31 01 62 07 64")
	if got := mustEncode(t, l); !bytes.Equal(got, want) {
		t.Errorf("% X", got)
	}
	if size := node.Size(l); size != 11 {
		t.Errorf("Size: %d", size)
	}
	mustFind(t, l, "b", 1, true)
	mustFind(t, l, "aa", 1, false)
	mustFind(t, l, "c", 2, false)
}

// The chapter's second example: nodes are cut and joined.
func TestExampleOfHalves(t *testing.T) {
	mustCut(t, exampleLeaf(), leaf(cell("a", "1")), "b", leaf(long("b", 7, 100)))
	b := branch([]string{"k", "m"}, 3, 4, 5)
	if got := mustEncode(t, b); !bytes.Equal(got, fromHex(t, "00 02 01 6B 01 6D 03 04 05")) {
		t.Errorf("% X", got)
	}
	mustCut(t, b, branch(nil, 3), "k", branch([]string{"m"}, 4, 5))
	mustJoin(t, branch(nil, 3), "k", branch([]string{"m"}, 4, 5), b)
}

// The chapter's third example: what is refused.
func TestExampleOfRefusals(t *testing.T) {
	mustNotEncode(t, leaf(cell("b", ""), cell("a", "")), api.ErrForm)
	mustNotEncode(t, leaf(cell("a", text('v', 65))), api.ErrForm)
	var nine []node.Cell
	for i := range 9 {
		nine = append(nine, cell(text('a'+byte(i), 48), text('v', 64)))
	}
	mustNotEncode(t, leaf(nine...), api.ErrTooLarge)
	mustNotDecode(t, "none", nil)
	mustDecode(t, noughts([]byte{1, 0}, 510), leaf())
	mustNotDecode(t, "511 noughts", noughts([]byte{1, 0}, 511))
}

// The example of README.md.
func TestExampleOfReadme(t *testing.T) {
	n := node.Node{Leaf: true, Cells: []node.Cell{{Key: "a", Value: "1"}, {Key: "c", Long: 7, Size: 100}}}
	i, is := node.Find(n, "b")
	if i != 1 || is {
		t.Errorf("Find: %d, %v", i, is)
	}
	b, err := node.Encode(n)
	if err != api.OK || len(b) != node.Size(n) {
		t.Errorf("Encode: % X, %v", b, err)
	}
	mustDecode(t, upTo(b, api.SectorSize), n)
	left, sep, right := node.Cut(n)
	if sep != "c" {
		t.Errorf("Cut: %q", sep)
	}
	mustJoin(t, left, sep, right, n)
}

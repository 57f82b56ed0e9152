package node_test

import (
	"encoding/hex"
	"fmt"
	"math"
	"slices"
	"strings"
	"testing"

	"buttery/api"
	"buttery/node"
)

// same says whether two nodes are the same; an empty list is as good as none.
func same(a, b node.Node) bool {
	return a.Leaf == b.Leaf && slices.Equal(a.Cells, b.Cells) && slices.Equal(a.Kids, b.Kids)
}

// shown is a node as a text, cut where it is long.
func shown(n node.Node) string { return cutShort(fmt.Sprintf("%#v", n)) }

// shownBytes are bytes as a text, cut where they are many.
func shownBytes(b []byte) string { return cutShort(fmt.Sprintf("% X", b)) }

// cutShort is the beginning of a text, if that is long.
func cutShort(s string) string {
	if len(s) <= 500 {
		return s
	}
	return s[:500] + " .."
}

// cloned is a node with lists of its own.
func cloned(n node.Node) node.Node {
	return node.Node{Leaf: n.Leaf, Cells: slices.Clone(n.Cells), Kids: slices.Clone(n.Kids)}
}

// fromHex are bytes, told as pairs of digits with or without blanks.
func fromHex(t *testing.T, s string) []byte {
	t.Helper()
	b, err := hex.DecodeString(strings.ReplaceAll(s, " ", ""))
	if err != nil {
		t.Fatal(err)
	}
	return b
}

// mustEncode are a node's bytes.
func mustEncode(t *testing.T, n node.Node) []byte {
	t.Helper()
	b, err := node.Encode(n)
	if err != api.OK || len(b) == 0 {
		t.Fatalf("Encode(%s): % X, %v", shown(n), b, err)
	}
	return b
}

// mustNotEncode asks that a node has no bytes.
func mustNotEncode(t *testing.T, n node.Node, want api.Errno) {
	t.Helper()
	if b, err := node.Encode(n); err != want || len(b) != 0 {
		t.Fatalf("Encode(%s): % X, %v, want %v", shown(n), b, err, want)
	}
}

// mustDecode asks that bytes are those of a node.
func mustDecode(t *testing.T, b []byte, want node.Node) {
	t.Helper()
	if n, err := node.Decode(b); err != api.OK || !same(n, want) {
		t.Fatalf("Decode(%s): %s, %v, want %s", shownBytes(b), shown(n), err, shown(want))
	}
}

// mustNotDecode asks that bytes are of no node.
func mustNotDecode(t *testing.T, what string, b []byte) {
	t.Helper()
	if n, err := node.Decode(b); err != api.ErrForm || !same(n, node.Node{}) {
		t.Fatalf("%s: Decode(%s): %s, %v, want %v", what, shownBytes(b), shown(n), err, api.ErrForm)
	}
}

// mustFind asks where a key belongs.
func mustFind(t *testing.T, n node.Node, key string, at int, is bool) {
	t.Helper()
	if gotAt, gotIs := node.Find(n, key); gotAt != at || gotIs != is {
		t.Fatalf("Find(%s, %q): %d, %v, want %d, %v", shown(n), key, gotAt, gotIs, at, is)
	}
}

// mustCut asks how a node is cut.
func mustCut(t *testing.T, n, a node.Node, sep string, b node.Node) {
	t.Helper()
	if gotA, gotSep, gotB := node.Cut(n); !same(gotA, a) || gotSep != sep || !same(gotB, b) {
		t.Fatalf("Cut(%s): %s, %q, %s, want %s, %q, %s", shown(n), shown(gotA), gotSep, shown(gotB), shown(a), sep, shown(b))
	}
}

// mustJoin asks what two nodes are when joined.
func mustJoin(t *testing.T, a node.Node, sep string, b, want node.Node) {
	t.Helper()
	if got := node.Join(a, sep, b); !same(got, want) {
		t.Fatalf("Join(%s, %q, %s): %s, want %s", shown(a), sep, shown(b), shown(got), shown(want))
	}
}

// cell is a cell with a value, or with none.
func cell(key, value string) node.Cell { return node.Cell{Key: key, Value: value} }

// long is a cell whose value stands elsewhere.
func long(key string, at, size int) node.Cell { return node.Cell{Key: key, Long: at, Size: size} }

// leaf is a leaf.
func leaf(cells ...node.Cell) node.Node { return node.Node{Leaf: true, Cells: cells} }

// branch is a branch with cells of these keys.
func branch(keys []string, kids ...int) node.Node {
	n := node.Node{Kids: kids}
	for _, k := range keys {
		n.Cells = append(n.Cells, cell(k, ""))
	}
	return n
}

// text are n bytes, all c.
func text(c byte, n int) string { return strings.Repeat(string(rune(c)), n) }

// key is one of many keys that rise, all of three bytes.
func key(i int) string { return string([]byte{byte(i >> 14), byte(i>>7) & 127, byte(i) & 127}) }

// keys are n keys that rise.
func keys(n int) []string {
	l := make([]string, n)
	for i := range l {
		l[i] = key(i)
	}
	return l
}

// noughts are b and n noughts behind it.
func noughts(b []byte, n int) []byte { return slices.Concat(b, make([]byte, n)) }

// upTo are b and noughts behind it, up to n bytes.
func upTo(b []byte, n int) []byte { return noughts(b, n-len(b)) }

// row are the numbers of a row that hangs on its beginning alone.
type row uint32

// next is a number from 0 on, below n.
func (r *row) next(n int) int {
	*r = *r*1664525 + 1013904223
	return int(*r>>8) % n
}

// text is a text of at most so many bytes, of few kinds.
func (r *row) text(most int) string {
	b := make([]byte, r.next(most+1))
	for i := range b {
		b[i] = "\x00\x01ab\x7f\x80\xff"[r.next(7)]
	}
	return string(b)
}

// numbers are numbers about which a count has its edges.
func numbers() []int {
	return []int{math.MinInt, -1, 0, 1, 127, 128, 1<<14 - 1, 1 << 14, 1<<21 - 1, 1 << 21, 1<<28 - 1, 1 << 28,
		api.MaxCount, api.MaxCount + 1, math.MaxInt}
}

// counts are those of the numbers that are counts.
func counts() []int {
	return slices.DeleteFunc(numbers(), func(n int) bool { return n < 0 || n > api.MaxCount })
}

// one is one of a list.
func one[T any](r *row, l []T) T { return l[r.next(len(l))] }

// good is a node that may be, with at most so many cells.
func (r *row) good(cells int) node.Node {
	n := node.Node{Leaf: r.next(2) == 1}
	var keys []string
	for range r.next(cells + 1) {
		keys = append(keys, r.text(one(r, []int{2, 8, node.MaxKey})))
	}
	slices.Sort(keys)
	for _, k := range slices.Compact(keys) {
		n.Cells = append(n.Cells, r.goodCell(k, n.Leaf))
	}
	if !n.Leaf {
		for range len(n.Cells) + 1 {
			n.Kids = append(n.Kids, one(r, counts()))
		}
	}
	return n
}

// goodCell is a cell that may be.
func (r *row) goodCell(key string, leaf bool) node.Cell {
	switch {
	case !leaf:
		return cell(key, "")
	case r.next(3) == 0:
		return long(key, one(r, counts()[1:]), one(r, counts()[1:]))
	}
	return cell(key, r.text(one(r, []int{0, 3, node.MaxInline})))
}

// any is a node that need not be one that may be, with at most so many cells.
func (r *row) any(cells int) node.Node {
	n := node.Node{Leaf: r.next(2) == 1}
	for range r.next(cells + 1) {
		n.Cells = append(n.Cells, node.Cell{Key: r.text(one(r, []int{1, 4, 60})), Value: r.text(one(r, []int{0, 4, 300})),
			Long: one(r, []int{0, 0, one(r, numbers())}), Size: one(r, []int{0, 0, one(r, numbers())})})
	}
	for range one(r, []int{0, len(n.Cells) + 1, r.next(cells + 3)}) {
		n.Kids = append(n.Kids, one(r, numbers()))
	}
	return n
}

// drawn are many nodes, of which about the half may be.
func drawn(many, cells int) []node.Node {
	r := row(many + cells)
	l := make([]node.Node, many)
	for i := range l {
		if i%2 == 0 {
			l[i] = r.good(cells)
		} else {
			l[i] = r.any(cells)
		}
	}
	return l
}

// goods are many nodes that may be.
func goods(many, cells int) []node.Node {
	r := row(many - cells)
	l := make([]node.Node, many)
	for i := range l {
		l[i] = r.good(cells)
	}
	return l
}

// edges are nodes with few cells in which each thing stands at its edges: most of them may
// not be.
func edges() []node.Node {
	l := []node.Node{leaf(cell("b", ""), cell("a", "")), leaf(cell("a", ""), cell("a", ""))}
	for _, c := range edgeCells() {
		l = append(l, leaf(c), node.Node{Cells: []node.Cell{c}, Kids: []int{1, 2}})
	}
	for cells := range 4 {
		for kids := range 6 {
			for _, kid := range numbers() {
				n := branch(keys(cells), slices.Repeat([]int{kid}, kids)...)
				l = append(l, n, node.Node{Leaf: true, Cells: n.Cells, Kids: n.Kids})
			}
		}
	}
	return l
}

// edgeCells are cells in which each thing stands at its edges.
func edgeCells() []node.Cell {
	var l []node.Cell
	for _, k := range []int{0, 1, 48, 49} {
		for _, v := range []int{0, 1, 64, 65} {
			for _, at := range numbers() {
				for _, size := range numbers() {
					l = append(l, node.Cell{Key: text('k', k), Value: text('v', v), Long: at, Size: size})
				}
			}
		}
	}
	return l
}

// room is a copy of a list with room behind its end, in which something stands.
func room[T any](l []T, x T) []T {
	return append(slices.Clone(l), x, x, x)[:len(l)]
}

// whole is all that a list's memory has, also behind its end.
func whole[T any](l []T) []T { return l[:cap(l)] }

// roomy is a copy of a node whose lists have room behind their ends.
func roomy(n node.Node) node.Node {
	return node.Node{Leaf: n.Leaf, Cells: room(n.Cells, node.Cell{Key: "behind", Value: "behind", Long: 1, Size: 1}), Kids: room(n.Kids, 99)}
}

// sameMemory says whether the lists of two nodes are the same, also behind their ends.
func sameMemory(a, b node.Node) bool {
	return same(a, b) && slices.Equal(whole(a.Cells), whole(b.Cells)) && slices.Equal(whole(a.Kids), whole(b.Kids))
}

// scribble writes over all of a node's lists, also behind their ends.
func scribble(n node.Node) {
	for i := range whole(n.Cells) {
		whole(n.Cells)[i] = node.Cell{Key: "scribbled", Value: "scribbled", Long: -7, Size: -7}
	}
	for i := range whole(n.Kids) {
		whole(n.Kids)[i] = -7
	}
}

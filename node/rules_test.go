package node_test

import (
	"bytes"
	"slices"
	"strings"
	"testing"

	"buttery/api"
	"buttery/node"
)

// asked are nodes of all kinds.
func asked() []node.Node {
	return slices.Concat(drawn(400, 5), drawn(60, 40), []node.Node{{}, leaf(), branch(nil, 3)})
}

// R1: no call panics, whatever the node is, and all end, however long it is.
func TestWhateverIsHandedIn(t *testing.T) {
	for _, n := range slices.Concat(asked(), edges()) {
		for _, key := range []string{"", "a", text('z', 1000)} {
			node.Find(n, key)
			node.Join(n, key, node.Node{})
			node.Join(node.Node{}, key, n)
		}
	}
	mustNotDecode(t, "many bytes", make([]byte, 1<<20))
	mustNotDecode(t, "many bytes", bytes.Repeat([]byte{0xff}, 1<<20))
}

// R1: all calls end, however long a node is.
func TestLongNodes(t *testing.T) {
	const many = 100000
	l := leaf(cells(many)...)
	mustCutAt(t, l, many/2, 0)
	mustNotEncode(t, l, api.ErrTooLarge)
	l.Cells[many-1].Value = text('v', 10*many)
	mustCutAt(t, l, many-1, 0)
	mustFind(t, l, "\xff", many, false)
	mustNotEncode(t, l, api.ErrForm)
	b := branch(keys(many), make([]int, 8*many)...)
	mustCutAt(t, b, many-1, many)
	mustNotEncode(t, b, api.ErrForm)
	mustJoin(t, b, "x", b, branch(slices.Concat(keys(many), []string{"x"}, keys(many)), make([]int, 16*many)...))
	// One long text in many cells would take very long, if it were written to be weighed.
	mustCutAt(t, leaf(slices.Repeat([]node.Cell{cell(text('k', 1<<26), "")}, 1000)...), 500, 0)
}

// R2: the same is answered again.
func TestAgain(t *testing.T) {
	for _, n := range asked() {
		mustBeAsInMind(t, n)
		mustBeAsInMind(t, n)
	}
}

// R3: no call changes a node, nor reads or writes behind its lists' ends.
func TestNodesStayAsTheyAre(t *testing.T) {
	for _, n := range asked() {
		a, b := roomy(n), roomy(n)
		wasA, wasB := roomy(n), roomy(n)
		mustBeAsInMind(t, a)
		node.Find(a, "a")
		mustJoin(t, a, "s", b, node.Join(cloned(n), "s", cloned(n)))
		mustJoin(t, a, "s", a, node.Join(cloned(n), "s", cloned(n)))
		if !sameMemory(a, wasA) || !sameMemory(b, wasB) {
			t.Fatalf("%s is %s now, %s", shown(wasA), shown(a), shown(b))
		}
	}
}

// R3: bytes stay as they are, and what stands behind their end is not read.
func TestBytesStayAsTheyAre(t *testing.T) {
	for _, n := range goods(300, 5) {
		b, err := node.Encode(n)
		if err != api.OK {
			continue
		}
		for _, behind := range []byte{0, 1, 255} {
			in := room(b, behind)
			mustDecode(t, in, n)
			if !bytes.Equal(whole(in)[:len(b)+3], append(slices.Clone(b), behind, behind, behind)) {
				t.Fatalf("% X are % X now", b, whole(in))
			}
			mustNotDecode(t, "the rest is behind the end", in[:len(b)-1])
		}
	}
}

// R3: what was told shares no memory with what was handed in, nor with what is told later, nor
// do two nodes of one answer.
func TestAnswersAreNewMemory(t *testing.T) {
	for _, n := range asked() {
		in := roomy(n)
		want := mindCut(n)
		for range 2 {
			a, sep, b := node.Cut(in)
			scribble(a)
			if !same(b, want.b) {
				t.Fatalf("Cut(%s): the second half is %s now", shown(n), shown(b))
			}
			scribble(b)
			mustCut(t, in, want.a, sep, want.b)
		}
		join := node.Join(cloned(n), "s", cloned(n))
		for range 2 {
			scribble(node.Join(in, "s", in))
			scribble(node.Join(in, "s", node.Node{}))
			scribble(node.Join(node.Node{}, "s", in))
			scribble(node.Join(leaf(), "s", in))
			mustJoin(t, in, "s", in, join)
		}
		if !sameMemory(in, roomy(n)) {
			t.Fatalf("%s is %s now", shown(n), shown(in))
		}
	}
}

// R3: the node of bytes stays when the bytes are written over, and so it is the other way round.
func TestBytesAreNewMemory(t *testing.T) {
	for _, n := range goods(300, 5) {
		want, err := node.Encode(n)
		if err != api.OK {
			continue
		}
		in := slices.Clone(want)
		got, _ := node.Decode(in)
		clear(whole(in))
		if !same(got, n) {
			t.Fatalf("the node of % X is %s now", want, shown(got))
		}
		out := mustEncode(t, n)
		clear(whole(out))
		scribble(got)
		mustDecode(t, want, n)
		if !bytes.Equal(mustEncode(t, n), want) {
			t.Fatalf("the bytes of %s are others now", shown(n))
		}
	}
}

// R4: beside an error there is nothing else.
func TestNothingBesideAnError(t *testing.T) {
	for _, b := range []string{"\x01\x01\x01k\x00\x01", "\x01\x01\x01k\x00\x01vx", "\x00\x01\x01k\x03", "\x02"} {
		if n, err := node.Decode([]byte(b)); err != api.ErrForm || n.Leaf || n.Cells != nil || n.Kids != nil {
			t.Errorf("Decode(%q): %v, %v", b, n, err)
		}
	}
	for _, n := range []node.Node{leaf(cell(text('k', 49), "")), leaf(cells(100)...), {}} {
		if b, err := node.Encode(n); err == api.OK || b != nil {
			t.Errorf("Encode(%s): % X, %v", shown(n), b, err)
		}
	}
}

// The limits are those of the chapter.
func TestLimits(t *testing.T) {
	if node.MaxKey != 48 || node.MaxInline != 64 {
		t.Error(node.MaxKey, node.MaxInline)
	}
	n := leaf(cell(strings.Repeat("k", node.MaxKey), strings.Repeat("v", node.MaxInline)))
	mustDecode(t, mustEncode(t, n), n)
}

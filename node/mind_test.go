package node_test

import (
	"bytes"
	"encoding/binary"
	"slices"
	"testing"

	"buttery/api"
	"buttery/node"
)

// What the chapter says, done as plainly as can be, whatever it costs.

// mindCount are a count's bytes; a number that is none has no byte.
func mindCount(n int) []byte {
	if n < 0 || n > api.MaxCount {
		return nil
	}
	return binary.AppendUvarint(nil, uint64(n))
}

// mindText are a text's bytes.
func mindText(s string) []byte { return append(mindCount(len(s)), s...) }

// mindBytes are a node's bytes, as if it may be.
func mindBytes(n node.Node) []byte {
	b := []byte{0}
	if n.Leaf {
		b[0] = 1
	}
	b = append(b, mindCount(len(n.Cells))...)
	for _, c := range n.Cells {
		b = append(b, mindText(c.Key)...)
		if n.Leaf {
			b = append(b, mindCount(c.Long)...)
			if c.Long == 0 {
				b = append(b, mindText(c.Value)...)
			} else {
				b = append(b, mindCount(c.Size)...)
			}
		}
	}
	if !n.Leaf {
		for _, k := range n.Kids {
			b = append(b, mindCount(k)...)
		}
	}
	return b
}

// mindMayBe says whether a node may be.
func mindMayBe(n node.Node) bool {
	may := true
	for i, c := range n.Cells {
		may = may && len(c.Key) <= 48
		none := c.Value == "" && c.Long == 0 && c.Size == 0
		inline := len(c.Value) <= 64 && c.Long == 0 && c.Size == 0
		elsewhere := c.Value == "" && c.Long >= 1 && c.Long <= api.MaxCount && c.Size >= 1 && c.Size <= api.MaxCount
		may = may && (none || n.Leaf && (inline || elsewhere))
		for _, d := range n.Cells[:i] {
			may = may && d.Key < c.Key
		}
	}
	for _, k := range n.Kids {
		may = may && k >= 0 && k <= api.MaxCount
	}
	kids := 0
	if !n.Leaf {
		kids = len(n.Cells) + 1
	}
	return may && len(n.Kids) == kids
}

// mindSize is a node's size.
func mindSize(n node.Node) int {
	if !mindMayBe(n) {
		return 0
	}
	return len(mindBytes(n))
}

// mindEncode are a node's bytes, or why it has none.
func mindEncode(n node.Node) ([]byte, api.Errno) {
	switch {
	case !mindMayBe(n):
		return nil, api.ErrForm
	case mindSize(n) > 512:
		return nil, api.ErrTooLarge
	}
	return mindBytes(n), api.OK
}

// scan reads bytes; at what does not stand there it panics.
type scan []byte

func (s *scan) take(n int) []byte {
	b := (*s)[:n]
	*s = (*s)[n:]
	return b
}

func (s *scan) count() int {
	u, n := binary.Uvarint(*s)
	if n <= 0 || n > 1 && (*s)[n-1] == 0 || u > api.MaxCount {
		panic("no count")
	}
	s.take(n)
	return int(u)
}

func (s *scan) text() string { return string(s.take(s.count())) }

func (s *scan) flag() bool { return []bool{false, true}[s.take(1)[0]] }

// node reads a node.
func (s *scan) node() node.Node {
	n := node.Node{Leaf: s.flag()}
	for range s.count() {
		c := node.Cell{Key: s.text()}
		if n.Leaf {
			c.Long = s.count()
			if c.Long == 0 {
				c.Value = s.text()
			} else {
				c.Size = s.count()
			}
		}
		n.Cells = append(n.Cells, c)
	}
	if !n.Leaf {
		for range len(n.Cells) + 1 {
			n.Kids = append(n.Kids, s.count())
		}
	}
	return n
}

// mindDecode is the node of some bytes, if they are a node's.
func mindDecode(b []byte) (n node.Node, ok bool) {
	defer func() {
		if recover() != nil {
			n, ok = node.Node{}, false
		}
	}()
	s := scan(slices.Clone(b))
	n = s.node()
	for _, x := range s {
		if x != 0 {
			panic("no nought")
		}
	}
	if !mindMayBe(n) || len(b) > 512 {
		panic("no node")
	}
	return n, true
}

// mindFind is where a key belongs.
func mindFind(n node.Node, key string) (int, bool) {
	at := 0
	for at < len(n.Cells) && n.Cells[at].Key < key {
		at++
	}
	return at, at < len(n.Cells) && n.Cells[at].Key == key
}

// cutting is one way to cut a node.
type cutting struct {
	a, b node.Node
	sep  string
}

// mindCuttings are all ways to cut a node, the first one first.
func mindCuttings(n node.Node) []cutting {
	var l []cutting
	for i, c := range n.Cells {
		switch {
		case n.Leaf && i > 0:
			l = append(l, cutting{leaf(n.Cells[:i]...), leaf(n.Cells[i:]...), c.Key})
		case !n.Leaf:
			kids := min(i+1, len(n.Kids))
			l = append(l, cutting{node.Node{Cells: n.Cells[:i], Kids: n.Kids[:kids]}, node.Node{Cells: n.Cells[i+1:], Kids: n.Kids[kids:]}, c.Key})
		}
	}
	return l
}

// apart is by how much two sizes differ.
func (c cutting) apart() int {
	d := len(mindBytes(c.a)) - len(mindBytes(c.b))
	return max(d, -d)
}

// mindCut is how a node is cut.
func mindCut(n node.Node) cutting {
	l := mindCuttings(n)
	if len(l) == 0 {
		return cutting{a: n}
	}
	return slices.MinFunc(l, func(x, y cutting) int { return x.apart() - y.apart() })
}

// mustBeAsInMind asks that all that is told of a node is as in mind.
func mustBeAsInMind(t *testing.T, n node.Node) {
	t.Helper()
	if got, want := node.Check(n), mindMayBe(n); got != want {
		t.Fatalf("Check(%s): %v, want %v", shown(n), got, want)
	}
	if got, want := node.Size(n), mindSize(n); got != want {
		t.Fatalf("Size(%s): %d, want %d", shown(n), got, want)
	}
	b, err := mindEncode(n)
	if err != api.OK {
		mustNotEncode(t, n, err)
	} else if got := mustEncode(t, n); !bytes.Equal(got, b) {
		t.Fatalf("Encode(%s): % X, want % X", shown(n), got, b)
	} else {
		mustDecode(t, b, n)
	}
	c := mindCut(n)
	mustCut(t, n, c.a, c.sep, c.b)
}

// P6.1, P6.3: all that is told of a node is what the chapter's words say, whatever the node is.
func TestAsInMind(t *testing.T) {
	for _, n := range edges() {
		mustBeAsInMind(t, n)
	}
	for _, n := range slices.Concat(drawn(6000, 4), drawn(3000, 24), drawn(300, 150)) {
		mustBeAsInMind(t, n)
	}
}

// P6.1: bytes are taken for a node if, and as, the chapter's words say: all short bytes of
// those that say something to a node, and all that differ from a node's bytes in one.
func TestDecodeAsInMind(t *testing.T) {
	var b [8]byte
	for size := range 7 {
		everyRow(b[:size], []byte{0, 1, 2, 0x80, 0xff}, func() { mustDecodeAsInMind(t, b[:size]) })
	}
	everyRow(b[:7], []byte{0, 1, 2, 0x80}, func() { mustDecodeAsInMind(t, b[:7]) })
	everyRow(b[:8], []byte{0, 1, 2}, func() { mustDecodeAsInMind(t, b[:8]) })
	for _, n := range goods(20, 6) {
		b, err := node.Encode(n)
		if err != api.OK {
			continue
		}
		for i, was := range b {
			for turned := range 256 {
				b[i] = byte(turned)
				mustDecodeAsInMind(t, b)
			}
			b[i] = was
		}
	}
}

// everyRow calls visit with each row of such bytes in b.
func everyRow(b, of []byte, visit func()) {
	if len(b) == 0 {
		visit()
		return
	}
	for _, x := range of {
		b[0] = x
		everyRow(b[1:], of, visit)
	}
}

// mustDecodeAsInMind asks that bytes are taken as in mind.
func mustDecodeAsInMind(t *testing.T, b []byte) {
	t.Helper()
	if n, ok := mindDecode(b); ok {
		mustDecode(t, b, n)
	} else {
		mustNotDecode(t, "as in mind", b)
	}
}

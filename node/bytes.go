package node

import (
	"buttery/api"
	"buttery/code"
)

// Size is how many bytes it has.
func Size(n Node) int {
	if !Check(n) {
		return 0
	}
	size := headSize(len(n.Cells))
	for _, c := range n.Cells {
		size += cellSize(c, n.Leaf)
	}
	for _, k := range n.Kids {
		size += countSize(k)
	}
	return size
}

// headSize is how many bytes stand ahead of so many cells.
func headSize(cells int) int { return 1 + countSize(cells) }

// cellSize is how many bytes a cell has, of a leaf or of a branch.
func cellSize(c Cell, leaf bool) int {
	key := textSize(c.Key)
	switch {
	case !leaf:
		return key
	case c.Long == 0:
		return key + countSize(0) + textSize(c.Value)
	}
	return key + countSize(c.Long) + countSize(c.Size)
}

// textSize is how many bytes a text has with its length. It is not written for that: a
// text that is too long for a node may be very long.
func textSize(s string) int { return countSize(len(s)) + len(s) }

// countSize is how many bytes a count has; a number that is none has no byte.
func countSize(n int) int { return len(code.Count(nil, n)) }

// Encode are its bytes.
func Encode(n Node) ([]byte, api.Errno) {
	switch size := Size(n); {
	case size == 0:
		return nil, api.ErrForm
	case size > api.SectorSize:
		return nil, api.ErrTooLarge
	}
	b := put(nil, code.Flag(nil, n.Leaf), code.Count(nil, len(n.Cells)))
	for _, c := range n.Cells {
		b = putCell(b, c, n.Leaf)
	}
	for _, k := range n.Kids {
		b = put(b, code.Count(nil, k))
	}
	return b, api.OK
}

// putCell writes a cell behind what is there, as a leaf's or as a branch's.
func putCell(b []byte, c Cell, leaf bool) []byte {
	b = put(b, code.Str(nil, c.Key))
	switch {
	case !leaf:
		return b
	case c.Long == 0:
		return put(b, code.Count(nil, 0), code.Str(nil, c.Value))
	}
	return put(b, code.Count(nil, c.Long), code.Count(nil, c.Size))
}

// put appends parts to what is there. They come each by itself, since what code writes
// behind other bytes it writes with all of these in new memory.
func put(b []byte, parts ...[]byte) []byte {
	for _, p := range parts {
		b = append(b, p...)
	}
	return b
}

// Decode is the node of some bytes.
func Decode(b []byte) (Node, api.Errno) {
	if len(b) > api.SectorSize {
		return Node{}, api.ErrForm
	}
	r := code.NewReader(b)
	n := read(r)
	if !r.OK() || !Check(n) || !areNoughts(b[len(b)-r.Left():]) {
		return Node{}, api.ErrForm
	}
	return n, api.OK
}

// read reads a node that perhaps may not be. A cell has a byte or more, so that there are
// never more of them than bytes are left, whatever their count says.
func read(r *code.Reader) Node {
	n := Node{Leaf: r.Flag()}
	for range r.Count(r.Left()) {
		n.Cells = append(n.Cells, readCell(r, n.Leaf))
	}
	if n.Leaf {
		return n
	}
	for range len(n.Cells) + 1 {
		n.Kids = append(n.Kids, r.Count(api.MaxCount))
	}
	return n
}

// readCell reads a cell, as a leaf's or as a branch's.
func readCell(r *code.Reader, leaf bool) Cell {
	c := Cell{Key: r.Str(MaxKey)}
	if !leaf {
		return c
	}
	c.Long = r.Count(api.MaxCount)
	if c.Long == 0 {
		c.Value = r.Str(MaxInline)
	} else {
		c.Size = r.Count(api.MaxCount)
	}
	return c
}

// areNoughts says whether all bytes are 0.
func areNoughts(b []byte) bool {
	for _, x := range b {
		if x != 0 {
			return false
		}
	}
	return true
}

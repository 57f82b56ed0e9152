package node_test

import (
	"bytes"
	"fmt"
	"slices"
	"testing"

	"buttery/api"
	"buttery/node"
)

// P6.1: the bytes of nodes, as they are written and as they are read.
func TestBytes(t *testing.T) {
	for _, x := range []struct {
		n    node.Node
		want string
	}{
		{leaf(), "01 00"},
		{leaf(cell("", "")), "01 01 00 00 00"},
		{leaf(cell("k", "v")), "01 01 01 6B 00 01 76"},
		{leaf(cell("", "\x00"), cell("\x00", "")), "01 02 00 00 01 00 01 00 00 00"},
		{leaf(long("k", 1, 128)), "01 01 01 6B 01 80 01"},
		{leaf(long("k", api.MaxCount, api.MaxCount)), "01 01 01 6B FF FF FF FF 07 FF FF FF FF 07"},
		{leaf(cell("a", "1"), long("b", 7, 100), cell("c", "")), "01 03 01 61 00 01 31 01 62 07 64 01 63 00 00"},
		{branch(nil, 0), "00 00 00"},
		{branch(nil, 128), "00 00 80 01"},
		{branch([]string{""}, 0, 0), "00 01 00 00 00"},
		{branch([]string{"a", "bc"}, 3, 300, 4), "00 02 01 61 02 62 63 03 AC 02 04"},
		{branch([]string{"k"}, api.MaxCount, 127), "00 01 01 6B FF FF FF FF 07 7F"},
	} {
		want := fromHex(t, x.want)
		if got := mustEncode(t, x.n); !bytes.Equal(got, want) {
			t.Errorf("Encode(%s): % X, want % X", shown(x.n), got, want)
		}
		mustDecode(t, want, x.n)
	}
	b := mustEncode(t, branch(shortKeys(128), make([]int, 129)...))
	if want := upTo(mindBytes(branch(shortKeys(128))), 387); !bytes.HasPrefix(b, fromHex(t, "00 80 01 00 01 01 01 02")) || !bytes.Equal(b, want) {
		t.Errorf("128 cells: % X, want % X", b, want)
	}
}

// shortKeys are n keys (at most 256) in as few bytes as can be.
func shortKeys(n int) []string {
	l := []string{""}
	for i := 1; i < n; i++ {
		l = append(l, string([]byte{byte(i)}))
	}
	return l
}

// shortCells are n cells in as few bytes as can be.
func shortCells(n int) []node.Cell { return branch(shortKeys(n)).Cells }

// P6.1: a node that may not be has no bytes, also where it would be too large.
func TestEncodeOfWhatMayNotBe(t *testing.T) {
	for _, n := range edges() {
		if !mindMayBe(n) {
			mustNotEncode(t, n, api.ErrForm)
			n.Cells = append(slices.Clone(n.Cells), cells(200)...)
			mustNotEncode(t, n, api.ErrForm)
		}
	}
	large := leaf(cells(200)...)
	mustNotEncode(t, large, api.ErrTooLarge)
	large.Cells[199].Value = text('v', 65)
	mustNotEncode(t, large, api.ErrForm)
	large.Cells[199] = large.Cells[198]
	mustNotEncode(t, large, api.ErrForm)
}

// P6.1: a node of just SectorSize bytes is written, and read; one of a byte more is not.
func TestEncodeUpToSectorSize(t *testing.T) {
	just := []node.Node{
		leaf(append(cells(73), cell(text('k', 48), text('v', 21)))...),
		leaf(append(shortCells(103), cell(text('k', 48), text('v', 48)))...),
		branch(keys(101), slices.Concat(make([]int, 98), []int{128, 128, 128, 128})...),
	}
	for _, n := range just {
		b := mustEncode(t, n)
		if len(b) != api.SectorSize {
			t.Fatalf("%d bytes", len(b))
		}
		mustDecode(t, b, n)
		mustNotDecode(t, "a nought behind", noughts(b, 1))
		more := cloned(n)
		if n.Leaf {
			more.Cells[len(more.Cells)-1].Value += "v"
		} else {
			more.Kids[0] = 128
		}
		if size := node.Size(more); size != api.SectorSize+1 {
			t.Fatalf("Size: %d", size)
		}
		mustNotEncode(t, more, api.ErrTooLarge)
		mustNotDecode(t, "a byte more", mindBytes(more))
	}
}

// P6.1: nothing is a node's bytes that lacks some at its end, has anything but noughts behind,
// or more noughts than go into a sector.
func TestDecodeCutShortAndLonger(t *testing.T) {
	mustNotDecode(t, "none", nil)
	mustNotDecode(t, "none", []byte{})
	for _, n := range slices.Concat(goods(300, 6), []node.Node{leaf(), branch(nil, 0), branch(nil, 128), leaf(cell("", ""))}) {
		b, err := node.Encode(n)
		if err != api.OK {
			continue
		}
		for i := range b {
			mustNotDecode(t, fmt.Sprint("cut at ", i), b[:i])
		}
		for _, x := range []byte{1, 2, 'a', 128, 255} {
			mustNotDecode(t, "a byte behind", append(slices.Clone(b), x))
			sector := upTo(b, api.SectorSize)
			for i := len(b); i < len(sector); i += 1 + i%37 {
				sector[i] = x
				mustNotDecode(t, fmt.Sprint("a byte behind, at ", i), sector)
				sector[i] = 0
			}
			if len(b) < api.SectorSize {
				sector[api.SectorSize-1] = x
				mustNotDecode(t, "a byte behind, the last one", sector)
			}
		}
		mustNotDecode(t, "a nought too many", upTo(b, api.SectorSize+1))
	}
}

// P6.1: bytes that say a node in another way than its own, or one that may not be, are no node's.
func TestDecodeOfWhatMayNotBe(t *testing.T) {
	for _, x := range []struct{ what, bytes string }{
		{"a flag of 2", "02 00"},
		{"a flag of 128", "80 00"},
		{"a flag of two bytes", "81 00 00"},
		{"a count of cells of two bytes", "01 80 00"},
		{"a count of a cell of two bytes", "01 81 00 00 00 00"},
		{"a key's length of two bytes", "01 01 81 00 6B 00 00"},
		{"a Long of 0 of two bytes", "01 01 01 6B 80 00 00"},
		{"a Long of two bytes", "01 01 01 6B 81 00 01"},
		{"a Size of two bytes", "01 01 01 6B 01 81 00"},
		{"a value's length of two bytes", "01 01 01 6B 00 81 00 76"},
		{"a kid of two bytes", "00 00 81 00"},
		{"a kid of 0 of two bytes", "00 01 01 6B 01 80 00"},
		{"no cells but a count of one", "01 01"},
		{"more cells than there are", "01 02 01 6B 00 00"},
		{"fewer cells than there are", "01 01 01 6B 00 00 01 6C 00 00"},
		{"MaxCount cells", "01 FF FF FF FF 07"},
		{"MaxCount and one cells", "01 80 80 80 80 08"},
		{"cells without end", "01 FF FF FF FF FF FF FF FF FF 01"},
		{"a branch of MaxCount cells", "00 FF FF FF FF 07 00 00"},
		{"a Long of MaxCount and one", "01 01 01 6B 80 80 80 80 08 01"},
		{"a Long of 2^63", "01 01 01 6B 80 80 80 80 80 80 80 80 80 01 01"},
		{"a Size of MaxCount and one", "01 01 01 6B 01 80 80 80 80 08"},
		{"a Size of 0", "01 01 01 6B 01 00"},
		{"a kid of MaxCount and one", "00 00 80 80 80 80 08"},
		{"a kid too few", "00 01 01 6B 03"},
		{"a kid too many", "00 01 01 6B 03 04 05"},
		{"no kid", "00 00"},
		{"a leaf with kids", "01 01 01 6B 00 00 03 04"},
		{"keys alike", "01 02 01 6B 00 00 01 6B 00 00"},
		{"keys that fall", "01 02 01 6B 00 00 01 6A 00 00"},
		{"a branch's keys alike", "00 02 01 6B 01 6B 03 04 05"},
		{"a branch's keys that fall", "00 02 01 6C 01 6B 03 04 05"},
		{"empty keys", "01 02 00 00 00 00 00 00"},
		{"a key longer than what is left", "01 01 30 6B 00 00"},
		{"a key of MaxCount bytes", "01 01 FF FF FF FF 07 6B 00 00"},
		{"a value longer than what is left", "01 01 01 6B 00 02 76"},
		{"noughts alone", "00 00 00 00 01"},
	} {
		mustNotDecode(t, x.what, fromHex(t, x.bytes))
	}
	for _, n := range append(edges(), drawn(3000, 5)...) {
		// A Long and a Size that are no counts are not written, so that the bytes may be another node's.
		if b := mindBytes(n); !mindMayBe(n) && wellCounted(n) {
			mustNotDecode(t, "may not be", b)
			mustNotDecode(t, "may not be", noughts(b, 9))
		}
	}
}

// wellCounted says whether a node's bytes tell all of it, though it may not be.
func wellCounted(n node.Node) bool {
	m, rest := node.Node{}, scan(mindBytes(n))
	defer func() { recover() }()
	m = rest.node()
	return len(rest) == 0 && same(m, n)
}

// P6.5: what was written is read so, with as many noughts behind as go into a sector.
func TestDecodeUndoesEncode(t *testing.T) {
	for i, n := range slices.Concat(goods(200, 4), goods(100, 40), []node.Node{leaf(), branch(nil, 0), branch([]string{""}, 0, 0)}) {
		b, err := node.Encode(n)
		if err == api.ErrTooLarge && node.Size(n) > api.SectorSize {
			continue
		}
		if err != api.OK || len(b) != node.Size(n) {
			t.Fatalf("Encode(%s): %d bytes, %v, want %d", shown(n), len(b), err, node.Size(n))
		}
		for size := len(b); size <= api.SectorSize; size += 1 + i%5*(size%3) {
			mustDecode(t, upTo(b, size), n)
		}
		mustDecode(t, upTo(b, api.SectorSize), n)
	}
}

// P6.5: what is taken for a node are its bytes, and noughts.
func TestEncodeUndoesDecode(t *testing.T) {
	taken := 0
	mustBack := func(b []byte) {
		n, err := node.Decode(b)
		if err != api.OK {
			return
		}
		taken++
		if got := mustEncode(t, n); len(got) > len(b) || !bytes.Equal(upTo(got, len(b)), b) {
			t.Fatalf("Decode(% X): %s, and Encode of it: % X", b, shown(n), got)
		}
	}
	var b [6]byte
	for size := range len(b) + 1 {
		everyRow(b[:size], []byte{0, 1, 2, 'a', 0x80}, func() { mustBack(b[:size]) })
	}
	r := row(5)
	for range 20000 {
		b := mindBytes(r.good(5))
		for range r.next(3) {
			b[r.next(len(b))] = one(&r, []byte{0, 1, 2, 3, 'a', 'b', 0x80})
		}
		mustBack(noughts(b, r.next(3)))
	}
	if taken < 10000 {
		t.Errorf("only %d were taken", taken)
	}
}

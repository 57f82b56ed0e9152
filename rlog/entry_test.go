package rlog_test

import (
	"encoding/binary"
	"math"
	"slices"
	"strconv"
	"testing"

	"buttery/api"
	"buttery/rlog"
)

// written is an entry with its bytes.
type written struct {
	e api.Entry
	b []byte
}

// byHand are entries whose bytes were laid by hand.
func byHand() []written {
	row := func(e api.Entry, hex string) written { return written{e, fromHex(hex)} }
	withText := func(n int, head string) written {
		b := append(fromHex(head), text("q", n)...)
		return written{change(1, text("q", n)), append(b, 0)}
	}
	return []written{
		row(noop(1), "01 01 00 00"),
		row(noop(2), "02 01 00 00"),
		row(noop(127), "7F 01 00 00"),
		row(noop(128), "80 01 01 00 00"),
		row(noop(16384), "80 80 01 01 00 00"),
		row(noop(maxCount-1), "FE FF FF FF 07 01 00 00"),
		row(noop(maxCount), "FF FF FF FF 07 01 00 00"),
		row(change(1, ""), "01 02 00 00"),
		row(change(3, "\x00"), "03 02 01 00 00"),
		row(change(3, "ab"), "03 02 02 61 62 00"),
		row(change(300, "\xff\x80\xc3\x00\x01"), "AC 02 02 05 FF 80 C3 00 01 00"),
		row(change(maxCount, "\x80\x01"), "FF FF FF FF 07 02 02 80 01 00"),
		withText(127, "01 02 7F"),
		withText(128, "01 02 80 01"),
		withText(255, "01 02 FF 01"),
		withText(256, "01 02 80 02"),
		row(members(1, 1), "01 03 00 01 01"),
		row(members(1, 5), "01 03 00 01 05"),
		row(members(9, 1, 2), "09 03 00 02 01 02"),
		row(members(9, 2, 3, 5), "09 03 00 03 02 03 05"),
		row(members(9, 1, 2, 3, 4), "09 03 00 04 01 02 03 04"),
		row(members(9, 1, 2, 3, 4, 5), "09 03 00 05 01 02 03 04 05"),
		row(members(maxCount, 4, 5), "FF FF FF FF 07 03 00 02 04 05"),
	}
}

// badEntries are entries that may not be.
func badEntries() []api.Entry {
	l := []api.Entry{
		{},
		{Term: 1},
		{Term: 1, Kind: 1, Data: "x"},
		{Term: 1, Kind: 1, Data: "\x00"},
		{Term: 1, Kind: 1, List: []int{1}},
		{Term: 1, Kind: 1, List: []int{0}},
		{Term: 1, Kind: 1, Data: "x", List: []int{1}},
		{Term: 1, Kind: 2, Data: text("q", 257)},
		{Term: 1, Kind: 2, Data: text("q", 258)},
		{Term: 1, Kind: 2, Data: text("q", 10000)},
		{Term: 1, Kind: 2, List: []int{1}},
		{Term: 1, Kind: 2, Data: "x", List: []int{1, 2}},
		{Term: 1, Kind: 3},
		{Term: 1, Kind: 3, List: []int{}},
		{Term: 1, Kind: 3, Data: "x"},
		{Term: 1, Kind: 3, Data: "x", List: []int{1}},
		{Term: 1, Kind: 3, Data: text("q", 256), List: []int{1, 2}},
	}
	for _, list := range badLists() {
		l = append(l, members(1, list...))
	}
	for _, x := range byHand() {
		for _, term := range badTerms() {
			e := x.e
			e.Term = term
			l = append(l, e)
		}
	}
	return l
}

// badTerms are no terms of an entry.
func badTerms() []int {
	return slices.DeleteFunc(ints(), func(n int) bool { return n >= 1 && n <= maxCount })
}

// badLists are no lists of an entry, though they are not empty.
func badLists() [][]int {
	return [][]int{
		{0}, {6}, {-1}, {7}, {math.MinInt}, {math.MaxInt}, {257}, {128},
		{1, 1}, {5, 5}, {2, 1}, {5, 4}, {0, 1}, {-1, 1}, {1, 6}, {5, 6}, {1, math.MaxInt}, {1, 0}, {1, -1},
		{1, 2, 2}, {1, 3, 2}, {2, 1, 3}, {1, 1, 2}, {0, 1, 2, 3, 4}, {1, 2, 3, 4, 6}, {1, 2, 3, 4, 4}, {5, 4, 3, 2, 1},
		{1, 2, 3, 4, 5, 6}, {1, 2, 3, 4, 5, 5}, {0, 1, 2, 3, 4, 5}, {1, 2, 3, 4, 5, 1}, {1, 2, 3, 4, 5, 0}, {1, 1, 1, 1, 1, 1},
	}
}

// P14.1: which entries may be, told one by one.
func TestCheck(t *testing.T) {
	for _, x := range byHand() {
		mustCheck(t, x.e, true)
		if len(x.e.List) == 0 {
			x.e.List = []int{}
			mustCheck(t, x.e, true)
			x.e.List = roomy([]int{}, 1, 2)
			mustCheck(t, x.e, true)
		} else {
			x.e.List = roomy(x.e.List, 9, 9, 9, 9, 9)
			mustCheck(t, x.e, true)
		}
	}
	for _, e := range badEntries() {
		mustCheck(t, e, false)
	}
}

// P14.1: entries of all Kinds, with and without Data and List, of Terms at the edges.
func TestCheckAllKinds(t *testing.T) {
	lists := [][]int{nil, {}, {1}, {1, 2, 3, 4, 5}, {0}, {2, 1}}
	for kind := range 256 {
		for _, term := range ints() {
			for _, data := range []string{"", "\x00", "x", text("q", 255), text("q", 256), text("q", 257)} {
				for _, list := range lists {
					e := api.Entry{Term: term, Kind: uint8(kind), Data: data, List: list}
					mustCheck(t, e, mayBe(e))
				}
			}
		}
		if kind > 3 || kind == 0 {
			mustCheck(t, api.Entry{Term: 1, Kind: uint8(kind)}, false)
			mustCheck(t, api.Entry{Term: 1, Kind: uint8(kind), Data: "x"}, false)
			mustCheck(t, api.Entry{Term: 1, Kind: uint8(kind), List: []int{1}}, false)
		}
	}
}

// P14.1: all lists of at most six numbers about the stores': 31 of them may be.
func TestCheckAllLists(t *testing.T) {
	many := 0
	var grow func(l []int)
	grow = func(l []int) {
		e := members(7, l...)
		mustCheck(t, e, mayBe(e))
		if rlog.Check(e) {
			many++
			mustWrite(t, e, lay(e))
		} else {
			mustNotWrite(t, e)
		}
		if len(l) == maxStores+1 {
			return
		}
		for n := -1; n <= maxStores+1; n++ {
			grow(append(l[:len(l):len(l)], n))
		}
	}
	grow(nil)
	if many != 31 {
		t.Errorf("%d lists may be", many)
	}
}

// P14.1: an entry's bytes are those laid by hand, and it is read of them.
func TestBytesByHand(t *testing.T) {
	for _, x := range byHand() {
		mustWrite(t, x.e, x.b)
		mustRead(t, x.b, x.e)
		if len(x.e.List) == 0 {
			x.e.List = []int{}
			mustWrite(t, x.e, x.b)
		}
	}
}

// P14.1: what may not be has no bytes.
func TestWriteRefused(t *testing.T) {
	for _, e := range badEntries() {
		mustNotWrite(t, e)
	}
}

// P14.1: nor are its bytes, laid as if it might be, read.
func TestReadWhatMayNotBe(t *testing.T) {
	for _, e := range badEntries() {
		mustNotRead(t, "may not be", lay(e))
	}
	for kind := range 1000 {
		for _, rest := range []string{"00 00", "01 61 00", "00 01 01", "00 02 01 02", "01 61 01 01"} {
			b := binary.AppendUvarint([]byte{1}, uint64(kind))
			b = append(b, fromHex(rest)...)
			if e, ok := unlay(b); ok {
				mustRead(t, b, e)
			} else {
				mustNotRead(t, "Kind "+strconv.Itoa(kind), b)
			}
		}
	}
}

// P14.1: no bytes, each beginning of an entry's, and a byte more behind.
func TestReadCutAndLonger(t *testing.T) {
	mustNotRead(t, "no bytes", nil)
	mustNotRead(t, "no bytes", []byte{})
	for _, x := range byHand() {
		for n := range len(x.b) {
			mustNotRead(t, "a beginning", x.b[:n])
			mustNotRead(t, "a beginning, without room behind", slices.Clip(x.b[:n]))
		}
		for more := range 256 {
			mustNotRead(t, "a byte more", append(slices.Clip(x.b), byte(more)))
		}
		mustNotRead(t, "twice", slices.Concat(x.b, x.b))
	}
}

// P14.1: counts and texts that are not as layer 1 writes them, in each place.
func TestReadOtherForms(t *testing.T) {
	for _, x := range []string{
		"81 00 01 00 00", "80 00 01 00 00", "FF FF FF FF 87 00 01 00 00", "81 80 00 01 00 00", // the Term: a byte too many
		"80 80 80 80 08 01 00 00", "FF FF FF FF 0F 01 00 00", "FF FF FF FF FF FF FF FF FF 01 01 00 00", // it is too great
		"FF FF FF FF FF FF FF FF FF FF 01 01 00 00", "80 80 80 80 80 80 80 80 80 80 01 01 00 00",
		"01 81 00 00 00", "01 82 00 00 00", "01 83 00 00 01 01", "01 81 02 00 00", "01 81 80 80 80 10 00 00", // the Kind: too long, or above 255
		"01 02 80 00 00", "01 02 81 00 61 00", "01 02 81 02 00", "01 02 02 61 00", "01 02 FF FF FF FF 07 61 00", "01 02 80 80 80 80 08 61 00", // the text
		"01 03 00 81 00 01", "01 01 00 80 00", "01 02 00 80 00", // how many the List has
		"01 03 00 01 81 00", "01 03 00 02 81 00 02", "01 03 00 02 01 82 00", // its numbers
	} {
		mustNotRead(t, x, fromHex(x))
	}
	long := append(fromHex("01 02 81 02"), text("q", 257)...)
	mustNotRead(t, "a text of a byte too many", append(long, 0))
}

// P14.1: counts of a list that are greater than what is left, or than a list may have.
func TestReadLongLists(t *testing.T) {
	counts := []uint64{1, 2, 3, 4, 5, 6, 7, 127, 128, 255, 256, 257, 65536, maxCount - 1, maxCount, maxCount + 1, 1 << 32, 1<<32 + 1, math.MaxInt64, math.MaxUint64}
	for _, kind := range []byte{1, 2, 3} {
		for left := range 8 {
			for _, n := range counts {
				b := binary.AppendUvarint([]byte{1, kind, 0}, n)
				b = append(b, []byte{1, 2, 3, 4, 5, 6, 7, 8}[:left]...)
				if kind == 3 && n == uint64(left) && n <= maxStores {
					mustRead(t, b, members(1, []int{1, 2, 3, 4, 5}[:left]...))
				} else {
					mustNotRead(t, "a long list", b)
				}
			}
		}
	}
}

// P14.1: all short bytes out of those that may matter.
func TestReadAllShortBytes(t *testing.T) {
	read := 0
	var grow func(b []byte)
	grow = func(b []byte) {
		if e, ok := unlay(b); ok {
			mustRead(t, b, e)
			mustWrite(t, e, b)
			read++
		} else {
			mustNotRead(t, "short", b)
		}
		if len(b) == 6 {
			return
		}
		for _, x := range []byte{0, 1, 2, 3, 5, 6, 128, 255} {
			grow(append(b[:len(b):len(b)], x))
		}
	}
	grow(nil)
	if read < 100 {
		t.Errorf("just %d were read", read)
	}
}

// P14.1, R2: nothing is kept of what is refused: what comes next is written and read as ever.
func TestBehindRefused(t *testing.T) {
	for _, x := range byHand() {
		for _, e := range badEntries() {
			mustNotWrite(t, e)
			mustNotRead(t, "may not be", lay(e))
		}
		mustWrite(t, x.e, x.b)
		mustNotRead(t, "a beginning", x.b[:len(x.b)-1])
		mustRead(t, x.b, x.e)
	}
}

// R3: what is handed in is not changed, nor read behind its end; what is told is new.
func TestBytesAreNew(t *testing.T) {
	for _, x := range byHand() {
		e := x.e
		e.List = roomy(e.List, 7, 8)
		b := mustWrite(t, e, x.b)
		spoil(b, 0xAA)
		if !slices.Equal(whole(e.List)[:len(e.List)+2], append(slices.Clone(x.e.List), 7, 8)) {
			t.Fatalf("Write(%s) changed its List: %v", shown(x.e), whole(e.List))
		}
		mustWrite(t, e, x.b)
		b = roomy(x.b, 1, 2)
		one, other := mustRead(t, b, x.e), mustRead(t, b, x.e)
		if string(whole(b)[:len(b)+2]) != string(x.b)+"\x01\x02" {
			t.Fatalf("Read changed %s: %s", shown(x.b), shown(whole(b)))
		}
		spoil(b, 0xAA)
		if !same(one, x.e) {
			t.Fatalf("%s was written over: %s", shown(x.b), shown(one))
		}
		spoil(one.List, -9)
		if !same(other, x.e) {
			t.Fatalf("what was read of %s once was written over: %s", shown(x.b), shown(other))
		}
		mustRead(t, x.b, x.e)
	}
}

package msg_test

import (
	"encoding/binary"
	"math"
	"slices"
	"strconv"
	"testing"

	"buttery/api"
	"buttery/msg"
)

// P13.1: bytes of messages of just MaxBody bytes, and of more.
func TestDecodeAtTheBound(t *testing.T) {
	for _, x := range samples() {
		m := filled(x.m, maxBody)
		mustDecode(t, lay(m), m)
		m.State += "s"
		mustNotDecode(t, "a byte past the bound", lay(m))
	}
	for _, x := range growing() {
		m := x.make(x.most)
		mustDecode(t, lay(m), m)
		for _, n := range []int{x.most + 1, x.most + 2, 8192, 100000} {
			mustNotDecode(t, x.name, lay(x.make(n)))
		}
	}
}

// P13.1: no Kind but 1 to 19, nor one in more bytes, nor one that is so in its low bits.
func TestDecodeKinds(t *testing.T) {
	zeros := make([]byte, 32)
	mustNotDecode(t, "no bytes", nil)
	mustNotDecode(t, "no bytes", []byte{})
	for kind := range 1000 {
		b := append(binary.AppendUvarint(nil, uint64(kind)), zeros...)
		if kind >= firstKind && kind <= lastKind {
			mustDecode(t, b, api.Msg{Kind: uint8(kind)})
			mustNotDecode(t, "a Kind in two bytes", slices.Concat([]byte{byte(kind) | 128, 0}, zeros))
		} else {
			mustNotDecode(t, "Kind "+strconv.Itoa(kind), b)
		}
	}
	for _, bad := range badKinds() {
		mustNotDecode(t, "Kind "+bad, append(fromHex(bad), zeros...))
	}
	for _, x := range crowds(8) {
		for _, kind := range []byte{0, 20, 127} {
			mustNotDecode(t, "another Kind", append([]byte{kind}, x.b[1:]...))
		}
	}
}

// P13.1: each beginning of a message's bytes, and a byte more behind them.
func TestDecodeCutAndLonger(t *testing.T) {
	l := singles(8)
	for kind := uint8(firstKind); kind <= lastKind; kind++ {
		l = append(l, crowds(kind)[int(kind)])
	}
	for _, x := range l {
		for n := range len(x.b) {
			mustNotDecode(t, "a beginning", x.b[:n])
			mustNotDecode(t, "a beginning, with room behind it", slices.Clip(x.b[:n]))
		}
		for _, more := range []byte{0, 1, 8, 255} {
			mustNotDecode(t, "a byte more", append(slices.Clip(x.b), more))
		}
		mustNotDecode(t, "two messages", slices.Concat(x.b, x.b))
	}
}

// P13.1: of each field, bytes that are none of its; all others are zero, or all are set.
func TestDecodeBadFields(t *testing.T) {
	l := crowds(8)
	for place, f := range fields() {
		for _, bad := range f.bad {
			mustNotDecode(t, f.name, bytesOf(8, place, fromHex(bad)))
			for i, x := range l {
				b := x.with(place, fromHex(bad))
				mustDecodeByType(t, f.name+" in the crowd "+strconv.Itoa(i), b)
			}
		}
	}
}

// P13.1: in the place of each field such a count as a list or a text may have or not: of what
// is left, of more by one, and of as much as can be said.
func TestDecodeSizes(t *testing.T) {
	for place, f := range fields() {
		left := int64(len(fields()) - place - 1)
		for _, n := range []int64{left / 2, left - 1, left, left + 1, left + 2, 127, 128, 8191, 8192, 8193, maxCount - 1, maxCount, maxCount + 1} {
			if n >= 0 {
				mustDecodeByType(t, f.name, bytesOf(8, place, binary.AppendUvarint(nil, uint64(n))))
			}
		}
	}
}

// P13.1: a number that has no room in an int is none; where an int has 64 bits each has room.
func TestDecodeNumbersOf64Bits(t *testing.T) {
	for _, n := range []int64{math.MaxInt32 + 1, math.MinInt32 - 1, 1 << 32, 1<<32 + 1, -1 << 32, math.MaxInt64, math.MinInt64} {
		for place, f := range fields() {
			if !f.isNum {
				continue
			}
			b := bytesOf(8, place, binary.AppendVarint(nil, n))
			if _, ok := unlay(b); ok != (strconv.IntSize == 64) {
				t.Fatal(f.name, n, ok)
			}
			mustDecodeByType(t, f.name, b)
		}
	}
}

// R3: what was told stays as it was when the bytes are written over.
func TestDecodeKeepsNothing(t *testing.T) {
	for _, x := range samples() {
		b := roomy(x.b, 1, 2, 3)
		m := mustDecode(t, b, x.m)
		if string(whole(b)[:len(b)+3]) != string(x.b)+"\x01\x02\x03" {
			t.Fatalf("Decode changed %s: %s", shown(x.b), shown(whole(b)))
		}
		fill(b, 0xAA)
		if !alike(m, x.m) {
			t.Fatalf("the bytes of %s were written over: %s", shown(x.m), shown(m))
		}
	}
}

// R3: no two lists of a message that was told share memory, nor do those of two.
func TestDecodeTellsNewMemory(t *testing.T) {
	for _, x := range samples() {
		m, n := mustDecode(t, x.b, x.m), mustDecode(t, x.b, x.m)
		mustBeApart(t, m)
		if !alike(n, x.m) {
			t.Fatalf("%s: %s", shown(x.m), shown(n))
		}
		mustDecode(t, x.b, x.m)
	}
}

// R4: behind bytes that are refused nothing is left: the next ones are read as ever.
func TestDecodeBehindRefused(t *testing.T) {
	for _, x := range crowds(9) {
		for _, b := range [][]byte{x.b[:len(x.b)-1], append(slices.Clip(x.b), 0), nil} {
			if m, err := msg.Decode(b); err != api.ErrForm || !alike(m, api.Msg{}) {
				t.Fatalf("%s: %s, %v", shown(b), shown(m), err)
			}
			mustDecode(t, x.b, x.m)
		}
	}
}

package seal_test

import (
	"slices"
	"testing"

	"buttery/seal"
)

// P2.1: the sums that are known.
func TestSumOfKnown(t *testing.T) {
	for _, x := range []struct {
		s    string
		want uint32
	}{
		{"", 0}, {"123456789", 3421780262}, {"a", 0xE8B7BE43}, {"abc", 0x352441C2},
		{"\x00", 0xD202EF8D}, {"\xFF", 0xFF000000}, {"\xFF\xFF\xFF\xFF", 0xFFFFFFFF}, {"\x00\x00\x00\x00", 0x2144DF1C},
		{"The quick brown fox jumps over the lazy dog", 0x414FA339},
	} {
		if got := seal.Sum([]byte(x.s)); got != x.want {
			t.Errorf("Sum(%q): %08X, want %08X", x.s, got, x.want)
		}
	}
	if got := seal.Sum(nil); got != 0 {
		t.Errorf("Sum(nil): %08X", got)
	}
}

// P2.1: the sum is the one that the words tell, of each byte, and of bytes of many lengths.
func TestSumByTheWords(t *testing.T) {
	for x := range 256 {
		for _, b := range [][]byte{{byte(x)}, {0, byte(x)}, {byte(x), 0xFF}, {0x80, byte(x), 0x01}} {
			if got, want := seal.Sum(b), plainSum(b); got != want {
				t.Errorf("Sum(% X): %08X, want %08X", b, got, want)
			}
		}
	}
	for _, n := range append(lengths(), 10000, 65535, 65536, 300001) {
		b := text(n, uint32(n))
		if got, want := seal.Sum(b), plainSum(b); got != want {
			t.Errorf("Sum of %d bytes: %08X, want %08X", n, got, want)
		}
	}
}

// P2.1, P2.5: More goes on from any cut, also where nothing stands on one side.
func TestMoreFromAnyCut(t *testing.T) {
	for _, n := range []int{0, 1, 2, 3, 9, 64, 257, 1000} {
		b := text(n, 7)
		want := plainSum(b)
		for cut := range n + 1 {
			if got := seal.More(seal.Sum(b[:cut]), b[cut:]); got != want {
				t.Errorf("%d bytes, cut at %d: %08X, want %08X", n, cut, got, want)
			}
		}
	}
}

// P2.5: three cuts, also in one place, and byte by byte.
func TestMoreFromManyCuts(t *testing.T) {
	b := text(23, 99)
	want := plainSum(b)
	for i := range len(b) + 1 {
		for j := i; j <= len(b); j++ {
			sum := seal.More(seal.More(seal.Sum(b[:i]), b[i:j]), b[j:])
			if sum != want {
				t.Errorf("cut at %d and %d: %08X, want %08X", i, j, sum, want)
			}
		}
	}
	sum := seal.Sum(nil)
	for i := range b {
		sum = seal.More(sum, b[i:i+1])
		if want := plainSum(b[:i+1]); sum != want {
			t.Errorf("byte by byte, %d bytes: %08X, want %08X", i+1, sum, want)
		}
	}
}

// P2.1: More with nothing behind is the number itself, whichever it is; and each number is
// gone on from, also one at an edge.
func TestMoreOfAnyNumber(t *testing.T) {
	for _, sum := range []uint32{0, 1, 0x80000000, 0xEDB88320, 0xFFFFFFFE, 0xFFFFFFFF, 0x12345678} {
		if seal.More(sum, nil) != sum || seal.More(sum, []byte{}) != sum {
			t.Errorf("More(%08X, nothing): %08X", sum, seal.More(sum, nil))
		}
		// Four bytes that are known lead back from a sum to whatever comes of them.
		b := []byte{0x61, 0x00, 0xFF, 0x80}
		want := plainSum(append(bytesOfSum(sum), b...))
		if got := seal.More(sum, b); got != want {
			t.Errorf("More(%08X, % X): %08X, want %08X", sum, b, got, want)
		}
	}
}

// bytesOfSum are four bytes whose sum is sum: each bit of the sum hangs on the bits of the
// bytes alone, so that they are found one byte after the other, from the last one on.
func bytesOfSum(sum uint32) []byte {
	var table [256]uint32
	for i := range table {
		r := uint32(i)
		for range 8 {
			r = r>>1 ^ r&1*0xEDB88320
		}
		table[i] = r
	}
	r := ^sum
	var places [4]int
	for i := 3; i >= 0; i-- {
		places[i] = slices.IndexFunc(table[:], func(x uint32) bool { return x>>24 == r>>24 })
		r = (r ^ table[places[i]]) << 8
	}
	b := make([]byte, 4)
	r = 0xFFFFFFFF
	for i := range b {
		b[i] = byte(r) ^ byte(places[i])
		r = r>>8 ^ table[places[i]]
	}
	return b
}

// P2.5: sums of three texts that are as long, and of what they come to by exclusive or,
// come to 0.
func TestSumsOfThree(t *testing.T) {
	for _, n := range append(lengths(), 20000) {
		a, b, c := text(n, 1), text(n, 2), text(n, 3)
		all := make([]byte, n)
		for i := range all {
			all[i] = a[i] ^ b[i] ^ c[i]
		}
		if x := seal.Sum(a) ^ seal.Sum(b) ^ seal.Sum(c) ^ seal.Sum(all); x != 0 {
			t.Errorf("%d bytes: %08X", n, x)
		}
	}
}

// R3: the bytes handed in stay as they were, and nothing behind their end is read.
func TestSumLeavesBytes(t *testing.T) {
	b := text(100, 5)
	was := slices.Clone(b)
	want := plainSum(b[:50])
	got, more := seal.Sum(b[:50]), seal.More(seal.Sum(b[:20]), b[20:50])
	if got != want || more != want {
		t.Errorf("Sum: %08X, More: %08X, want %08X", got, more, want)
	}
	if !slices.Equal(b, was) {
		t.Error("the bytes were changed")
	}
}

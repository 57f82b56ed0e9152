package code_test

import (
	"bytes"
	"encoding/binary"
	"encoding/hex"
	"math"
	"strconv"
	"strings"
	"testing"

	"buttery/api"
	"buttery/code"
)

// fromHex reads bytes that are written as in the chapter: 80 01.
func fromHex(t *testing.T, s string) []byte {
	t.Helper()
	b, err := hex.DecodeString(strings.ReplaceAll(s, " ", ""))
	if err != nil {
		t.Fatal(err)
	}
	return b
}

// same says whether two lists of bytes are the same; an empty one may be nil.
func same(a, b []byte) bool { return string(a) == string(b) }

// ordinary are numbers near every place at which a byte more is needed, of both signs.
func ordinary() []int64 {
	l := []int64{0, 1, 2, 3, 5, 100, 1000000007, math.MinInt64, math.MinInt64 + 1, math.MaxInt64, math.MaxInt64 - 1}
	for shift := range 63 {
		for d := int64(-1); d <= 1; d++ {
			l = append(l, int64(1)<<shift+d, -(int64(1)<<shift)+d)
		}
	}
	return l
}

// P1.1: the numbers' bytes, by the chapter and by hand.
func TestNumBytes(t *testing.T) {
	for _, x := range []struct {
		n    int64
		want string
	}{
		{0, "00"}, {-1, "01"}, {1, "02"}, {-2, "03"}, {2, "04"},
		{63, "7E"}, {-64, "7F"}, {64, "80 01"}, {-65, "81 01"}, {8191, "FE 7F"}, {-8192, "FF 7F"}, {8192, "80 80 01"},
		{math.MaxInt64, "FE FF FF FF FF FF FF FF FF 01"},
		{math.MinInt64, "FF FF FF FF FF FF FF FF FF 01"},
		{math.MinInt64 + 1, "FD FF FF FF FF FF FF FF FF 01"},
	} {
		if got := code.Num(nil, x.n); !same(got, fromHex(t, x.want)) {
			t.Errorf("Num(none, %d): % X, want %s", x.n, got, x.want)
		}
	}
}

// P1.1: the numbers' bytes are those of 2n, or -2n - 1, behind b.
func TestNumIsCountOfTwice(t *testing.T) {
	for _, n := range ordinary() {
		twice := uint64(n) << 1
		if n < 0 {
			twice = ^twice
		}
		want := binary.AppendUvarint([]byte("ahead"), twice)
		if got := code.Num([]byte("ahead"), n); !same(got, want) {
			t.Errorf("Num(ahead, %d): % X, want % X", n, got, want)
		}
	}
}

// P1.1: the counts' bytes, by the chapter and by hand.
func TestCountBytes(t *testing.T) {
	for _, x := range []struct {
		n    int
		want string
	}{
		{0, "00"}, {1, "01"}, {127, "7F"}, {128, "80 01"}, {129, "81 01"}, {255, "FF 01"}, {256, "80 02"},
		{16383, "FF 7F"}, {16384, "80 80 01"}, {1<<21 - 1, "FF FF 7F"}, {1 << 21, "80 80 80 01"},
		{1<<28 - 1, "FF FF FF 7F"}, {1 << 28, "80 80 80 80 01"},
		{api.MaxCount - 1, "FE FF FF FF 07"}, {api.MaxCount, "FF FF FF FF 07"},
	} {
		if got := code.Count(nil, x.n); !same(got, fromHex(t, x.want)) {
			t.Errorf("Count(none, %d): % X, want %s", x.n, got, x.want)
		}
		if got, want := code.Count([]byte("ahead"), x.n), "ahead"+string(fromHex(t, x.want)); string(got) != want {
			t.Errorf("Count(ahead, %d): %q, want %q", x.n, got, want)
		}
	}
	for n := range 70000 {
		if got, want := code.Count(nil, n), binary.AppendUvarint(nil, uint64(n)); !same(got, want) {
			t.Fatalf("Count(none, %d): % X, want % X", n, got, want)
		}
	}
}

// noCounts are numbers that no count is; those above 2^31 - 1 are not numbers of an
// int everywhere.
func noCounts() []int {
	l := []int{-1, -2, -127, -128, math.MinInt32, math.MinInt}
	if strconv.IntSize == 64 {
		above := api.MaxCount
		l = append(l, above+1, above+2, 2*above+1, 2*above+2, 2*above+3, math.MaxInt)
	}
	return l
}

// P1.1: Count of what is no count is b alone.
func TestCountOfNoCount(t *testing.T) {
	for _, n := range noCounts() {
		for _, b := range []string{"", "ahead"} {
			if got := code.Count([]byte(b), n); string(got) != b {
				t.Errorf("Count(%q, %d): %q, want %q", b, n, got, b)
			}
		}
		if got := code.Count(nil, n); len(got) != 0 {
			t.Errorf("Count(nil, %d): %q, want nothing", n, got)
		}
	}
}

// P1.1: the texts' bytes.
func TestStrBytes(t *testing.T) {
	every := make([]byte, 256)
	for i := range every {
		every[i] = byte(i)
	}
	for _, x := range []struct{ s, count string }{
		{"", "00"}, {"a", "01"}, {"ab", "02"}, {"\x00", "01"}, {"\xff\xfe no runes", "0B"}, {"\u00e9\u4e16", "05"},
		{strings.Repeat("x", 127), "7F"}, {strings.Repeat("x", 128), "80 01"},
		{string(every), "80 02"}, {strings.Repeat("y", 70000), "F0 A2 04"},
	} {
		want := string(fromHex(t, x.count)) + x.s
		if got := code.Str(nil, x.s); string(got) != want {
			t.Errorf("Str(none, %d bytes): %d bytes, not %s and the text", len(x.s), len(got), x.count)
		}
		if got := code.Str([]byte("ahead"), x.s); string(got) != "ahead"+want {
			t.Errorf("Str(ahead, %d bytes): %d bytes, not ahead, %s and the text", len(x.s), len(got), x.count)
		}
	}
}

// P1.1: the truth values' bytes.
func TestFlagBytes(t *testing.T) {
	for _, x := range []struct {
		b    string
		v    bool
		want string
	}{{"", true, "\x01"}, {"", false, "\x00"}, {"x", true, "x\x01"}, {"x", false, "x\x00"}} {
		if got := code.Flag([]byte(x.b), x.v); string(got) != x.want {
			t.Errorf("Flag(%q, %v): %q, want %q", x.b, x.v, got, x.want)
		}
	}
}

// writers are calls that write something behind b, or nothing.
func writers() map[string]func(b []byte) []byte {
	m := map[string]func(b []byte) []byte{
		"Num 1":          func(b []byte) []byte { return code.Num(b, 1) },
		"Num least":      func(b []byte) []byte { return code.Num(b, math.MinInt64) },
		"Count 0":        func(b []byte) []byte { return code.Count(b, 0) },
		"Count greatest": func(b []byte) []byte { return code.Count(b, api.MaxCount) },
		"Str none":       func(b []byte) []byte { return code.Str(b, "") },
		"Str":            func(b []byte) []byte { return code.Str(b, "text") },
		"Str long":       func(b []byte) []byte { return code.Str(b, strings.Repeat("text", 100)) },
		"Flag":           func(b []byte) []byte { return code.Flag(b, true) },
	}
	for _, n := range noCounts() {
		m["Count "+strconv.Itoa(n)] = func(b []byte) []byte { return code.Count(b, n) }
	}
	return m
}

// scribble writes into all that was handed out, the room behind its end too.
func scribble(b []byte) {
	b = b[:cap(b)]
	for i := range b {
		b[i] ^= 0x55
	}
}

// P1.1: b stays as it was, with the room behind its end; the answer is new memory.
func TestWritersTakeNewMemory(t *testing.T) {
	for name, write := range writers() {
		for ahead := range 4 {
			room := bytes.Repeat([]byte{0xEE}, 600)
			one := write(room[:ahead])
			was := string(one)
			two := write(room[:ahead])
			if string(two) != was {
				t.Errorf("%s: %q, then %q", name, was, two)
			}
			scribble(two)
			if string(one) != was {
				t.Errorf("%s: two answers share memory", name)
			}
			scribble(one)
			if !same(room, bytes.Repeat([]byte{0xEE}, 600)) {
				t.Errorf("%s: what was handed in has changed", name)
			}
		}
	}
}

// P1.1: an answer is not changed by what becomes of b later.
func TestAnswersStay(t *testing.T) {
	for name, write := range writers() {
		b := []byte("ahead")
		got := write(b)
		was := string(got)
		scribble(b)
		if string(got) != was {
			t.Errorf("%s: the answer shares memory with b", name)
		}
	}
}

package code_test

import (
	"bytes"
	"math"
	"strings"
	"testing"

	"buttery/api"
	"buttery/code"
)

// Kinds of things that are written and read.
const (
	aNum = iota
	aCount
	aStr
	aFlag
	kinds
)

// thing is a thing that is written and read; of its fields that of its kind counts.
type thing struct {
	kind  int
	num   int64
	count int
	str   string
	flag  bool
}

// write puts a thing behind b.
func (x thing) write(b []byte) []byte {
	switch x.kind {
	case aNum:
		return code.Num(b, x.num)
	case aCount:
		return code.Count(b, x.count)
	case aStr:
		return code.Str(b, x.str)
	}
	return code.Flag(b, x.flag)
}

// writeAll puts things one behind the other.
func writeAll(l []thing) []byte {
	var b []byte
	for _, x := range l {
		b = x.write(b)
	}
	return b
}

// read reads a thing of a kind, with bounds that allow all.
func read(r *code.Reader, kind int) thing {
	x := thing{kind: kind}
	switch kind {
	case aNum:
		x.num = r.Num()
	case aCount:
		x.count = r.Count(api.MaxCount)
	case aStr:
		x.str = r.Str(api.MaxCount)
	case aFlag:
		x.flag = r.Flag()
	}
	return x
}

// things are some of each kind, at the edges too.
func things() []thing {
	var l []thing
	for _, n := range []int64{0, 1, -1, 63, 64, -64, -65, 1 << 40, math.MaxInt64, math.MinInt64} {
		l = append(l, thing{kind: aNum, num: n})
	}
	for _, n := range []int{0, 1, 127, 128, 16384, api.MaxCount} {
		l = append(l, thing{kind: aCount, count: n})
	}
	for _, s := range []string{"", "a", "ab", "\x00\x80\xff", strings.Repeat("q", 130)} {
		l = append(l, thing{kind: aStr, str: s})
	}
	return append(l, thing{kind: aFlag}, thing{kind: aFlag, flag: true})
}

// rows are all rows of at most three things.
func rows() [][]thing {
	l := [][]thing{nil}
	from := 0
	for range 3 {
		to := len(l)
		for _, row := range l[from:to] {
			for _, x := range things() {
				l = append(l, append(row[:len(row):len(row)], x))
			}
		}
		from = to
	}
	return l
}

// P1.4: what was written, one behind the other, is read so; then the reader is Done,
// and not ahead of that.
func TestBack(t *testing.T) {
	for _, row := range rows() {
		r := code.NewReader(writeAll(row))
		for i, x := range row {
			if r.Done() {
				t.Fatalf("%v: Done ahead of the place %d", row, i)
			}
			if got := read(r, x.kind); got != x {
				t.Fatalf("%v: at the place %d: %v", row, i, got)
			}
		}
		if !r.Done() || !r.OK() || r.Left() != 0 {
			t.Fatalf("%v: not Done behind the last one", row)
		}
	}
}

// P1.4: each number comes back, and the bounds that allow it just so do.
func TestNumbersBack(t *testing.T) {
	for _, n := range ordinary() {
		r := code.NewReader(code.Num(nil, n))
		if got := r.Num(); got != n || !r.Done() {
			t.Errorf("Num: %d came back as %d, Done %v", n, got, r.Done())
		}
		if n < 0 || n > api.MaxCount {
			continue
		}
		b := code.Count(nil, int(n))
		r = code.NewReader(b)
		if got := r.Count(int(n)); got != int(n) || !r.Done() {
			t.Errorf("Count: %d came back as %d, Done %v", n, got, r.Done())
		}
		r = code.NewReader(b)
		if got := r.Count(int(n) - 1); got != 0 || r.OK() {
			t.Errorf("Count(%d) told %d of %d", n-1, got, n)
		}
	}
}

// eachText hands over all texts of at most most of some bytes.
func eachText(letters []byte, most int, do func(b []byte)) {
	var grow func(b []byte)
	grow = func(b []byte) {
		do(b)
		if len(b) == most {
			return
		}
		for _, x := range letters {
			grow(append(b[:len(b):len(b)], x))
		}
	}
	grow(nil)
}

// mustBeWritten asks that a reader, if it is Done behind things of these kinds, had just
// the bytes that writing them makes; it tells whether it was Done.
func mustBeWritten(t *testing.T, b []byte, row ...int) bool {
	t.Helper()
	r := code.NewReader(b)
	var l []thing
	for _, kind := range row {
		l = append(l, read(r, kind))
	}
	if !r.Done() {
		return false
	}
	if again := writeAll(l); !same(again, b) {
		t.Errorf("% X was read as %v, which is written as % X", b, l, again)
	}
	return true
}

// P1.4: what is read and Done was written by just these bytes: over all short texts of
// bytes at the edges, read as one thing and as two.
func TestNoOtherForm(t *testing.T) {
	all := make([]byte, 256)
	for i := range all {
		all[i] = byte(i)
	}
	done := 0
	look := func(b []byte) {
		for one := range kinds {
			if mustBeWritten(t, b, one) {
				done++
			}
			for two := range kinds {
				if mustBeWritten(t, b, one, two) {
					done++
				}
			}
		}
	}
	eachText(all, 2, look)
	eachText([]byte{0x00, 0x01, 0x02, 0x07, 0x08, 0x7F, 0x80, 0xFF}, 5, look)
	if done < 1000 {
		t.Errorf("only %d were read to their ends", done)
	}
}

// P1.4: the same of long numbers, whose last bytes are any.
func TestNoOtherFormOfLongNumbers(t *testing.T) {
	for n := range 12 {
		for last := range 256 {
			b := append(bytes.Repeat([]byte{0x80}, n), byte(last))
			mustBeWritten(t, b, aNum)
			mustBeWritten(t, b, aCount)
			b = append(bytes.Repeat([]byte{0xFF}, n), byte(last))
			mustBeWritten(t, b, aNum)
			mustBeWritten(t, b, aCount)
		}
	}
}

// ends are the places behind each thing of a row in its bytes.
func ends(row []thing) []int {
	var l []int
	for i := range row {
		l = append(l, len(writeAll(row[:i+1])))
	}
	return l
}

// P1.5: bytes that were cut at any place: what is whole is read as it was, and then the
// reader fails; it does not read what stands past the end, though it is there.
func TestCutAnywhere(t *testing.T) {
	for _, row := range rows() {
		b, end := writeAll(row), ends(row)
		for cut := range b {
			r := code.NewReader(b[:cut])
			for i, x := range row {
				want, ok := x, true
				if end[i] > cut {
					want, ok = thing{kind: x.kind}, false
				}
				if got := read(r, x.kind); got != want || r.OK() != ok {
					t.Fatalf("%v, cut at %d: at the place %d: %v, OK %v", row, cut, i, got, r.OK())
				}
			}
			if stateOf(r) != failed {
				t.Fatalf("%v, cut at %d: the reader has not failed", row, cut)
			}
		}
	}
}

// P1.5: of what was cut off nothing is told, whatever stands there.
func TestNothingPastTheEnd(t *testing.T) {
	for _, behind := range []byte{0x00, 0x01, 0x61, 0x7F, 0x80, 0xFF} {
		for cut := range 12 {
			room := append(bytes.Repeat([]byte{0x80}, cut), bytes.Repeat([]byte{behind}, 20)...)
			for kind := range kinds {
				r := code.NewReader(room[:cut])
				if got := read(r, kind); got != (thing{kind: kind}) {
					t.Errorf("%d bytes, and %02X behind: %v", cut, behind, got)
				}
				mustStand(t, "cut off", r, failed)
			}
			text := append([]byte{byte(cut + 1)}, room...)
			r := code.NewReader(text[:cut+1])
			if got := r.Str(99); got != "" {
				t.Errorf("a text that lacks its last byte: %q", got)
			}
			mustStand(t, "a text that lacks its last byte", r, failed)
		}
	}
}

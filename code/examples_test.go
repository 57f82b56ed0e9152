package code_test

import (
	"fmt"
	"math"
	"testing"

	"buttery/code"
)

// The chapter's example 1: what is written.
func TestExampleOfWriting(t *testing.T) {
	for _, x := range []struct {
		what string
		got  []byte
		want string
	}{
		{"Count(none, 0)", code.Count(nil, 0), "00"},
		{"Count(none, 127)", code.Count(nil, 127), "7F"},
		{"Count(none, 128)", code.Count(nil, 128), "80 01"},
		{"Count(none, -1)", code.Count(nil, -1), ""},
		{"Num(none, -1)", code.Num(nil, -1), "01"},
		{"Num(none, 1)", code.Num(nil, 1), "02"},
		{"Num(none, -2^63)", code.Num(nil, math.MinInt64), "FF FF FF FF FF FF FF FF FF 01"},
		{`Str(none, "ab")`, code.Str(nil, "ab"), "02 61 62"},
		{"Flag(none, true)", code.Flag(nil, true), "01"},
	} {
		if !same(x.got, fromHex(t, x.want)) {
			t.Errorf("%s: % X, want %s", x.what, x.got, x.want)
		}
	}
}

// The chapter's examples 2 and 3: what fails.
func TestExampleOfFailing(t *testing.T) {
	for what, x := range map[string]struct {
		b  string
		do func(*code.Reader)
	}{
		"Count(9) of 80 00":  {"80 00", func(r *code.Reader) { r.Count(9) }},
		"Count(4) of 05":     {"05", func(r *code.Reader) { r.Count(4) }},
		"Str(9) of 02 61":    {"02 61", func(r *code.Reader) { r.Str(9) }},
		"Flag of 02":         {"02", func(r *code.Reader) { r.Flag() }},
		"Str(1) of 02 61 62": {"02 61 62", func(r *code.Reader) { r.Str(1) }},
	} {
		r := code.NewReader(fromHex(t, x.b))
		x.do(r)
		mustStand(t, what, r, failed)
	}
}

// The chapter's example 3: what is read to its end.
func TestExampleOfReading(t *testing.T) {
	r := code.NewReader(fromHex(t, "02 61 62"))
	if s := r.Str(2); s != "ab" || !r.Done() {
		t.Errorf("Str(2): %q, Done %v", s, r.Done())
	}
}

// The example of README.md.
func Example() {
	b := code.Str(code.Num(nil, -1), "ab")
	r := code.NewReader(b)
	n, s := r.Num(), r.Str(10)
	fmt.Printf("% X: %d %q %v\n", b, n, s, r.Done())
	// Output: 01 02 61 62: -1 "ab" true
}

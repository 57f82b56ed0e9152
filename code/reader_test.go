package code_test

import (
	"math"
	"strings"
	"testing"

	"buttery/api"
	"buttery/code"
)

// state is what a reader tells of itself.
type state struct {
	left     int
	ok, done bool
}

func stateOf(r *code.Reader) state { return state{r.Left(), r.OK(), r.Done()} }

// failed is how a reader that failed stands.
var failed = state{}

// mustStand asks that a reader stands so.
func mustStand(t *testing.T, what string, r *code.Reader, want state) {
	t.Helper()
	if got := stateOf(r); got != want {
		t.Errorf("%s: Left, OK, Done are %v, want %v", what, got, want)
	}
}

// mustTellZeros asks that a reader tells zeros, whatever is asked, and stays failed.
func mustTellZeros(t *testing.T, what string, r *code.Reader) {
	t.Helper()
	for range 2 {
		if n := r.Num(); n != 0 {
			t.Errorf("%s: Num: %d", what, n)
		}
		if n := r.Count(api.MaxCount); n != 0 {
			t.Errorf("%s: Count: %d", what, n)
		}
		if s := r.Str(api.MaxCount); s != "" {
			t.Errorf("%s: Str: %q", what, s)
		}
		if r.Flag() {
			t.Errorf("%s: Flag: true", what)
		}
		mustStand(t, what, r, failed)
	}
}

// P1.2: Num over bytes.
func TestReadNum(t *testing.T) {
	for _, x := range []struct {
		b    string
		want int64
		then state
	}{
		{"00", 0, state{0, true, true}},
		{"01", -1, state{0, true, true}},
		{"02", 1, state{0, true, true}},
		{"7F", -64, state{0, true, true}},
		{"80 01", 64, state{0, true, true}},
		{"81 01", -65, state{0, true, true}},
		{"FE FF FF FF FF FF FF FF FF 01", math.MaxInt64, state{0, true, true}},
		{"FF FF FF FF FF FF FF FF FF 01", math.MinInt64, state{0, true, true}},
		{"FF FF FF FF FF FF FF FF 7F", math.MinInt64 / 2, state{0, true, true}},
		{"FF FF FF FF FF FF FF FF 7F 00", math.MinInt64 / 2, state{1, true, false}},
		{"02 03", 1, state{1, true, false}},
		{"80 01 80 01", 64, state{2, true, false}},
		{"00 80", 0, state{1, true, false}},
		{"", 0, failed},
		{"80", 0, failed},
		{"FF FF FF FF FF FF FF FF FF", 0, failed},
		{"80 00", 0, failed},
		{"81 00", 0, failed},
		{"80 80 00", 0, failed},
		{"FF FF FF FF FF FF FF FF FF 80 00", 0, failed},
		{"FF FF FF FF FF FF FF FF FF 00", 0, failed},
		{"FF FF FF FF FF FF FF FF FF 02", 0, failed},
		{"FF FF FF FF FF FF FF FF FF 03", 0, failed},
		{"FF FF FF FF FF FF FF FF FF 7F", 0, failed},
		{"FF FF FF FF FF FF FF FF FF 81", 0, failed},
		{"FF FF FF FF FF FF FF FF FF 81 00", 0, failed},
		{"FF FF FF FF FF FF FF FF FF FF 01", 0, failed},
		{"80 80 80 80 80 80 80 80 80 80 01", 0, failed},
	} {
		r := code.NewReader(fromHex(t, x.b))
		if got := r.Num(); got != x.want {
			t.Errorf("Num of %s: %d, want %d", x.b, got, x.want)
		}
		mustStand(t, "Num of "+x.b, r, x.then)
		if x.then == failed {
			mustTellZeros(t, "Num of "+x.b, r)
		}
	}
}

// P1.2: Count over bytes, with its bound.
func TestReadCount(t *testing.T) {
	for _, x := range []struct {
		b    string
		most int
		want int
		then state
	}{
		{"00", 0, 0, state{0, true, true}},
		{"00", 9, 0, state{0, true, true}},
		{"05", 5, 5, state{0, true, true}},
		{"05", 6, 5, state{0, true, true}},
		{"05 06", 5, 5, state{1, true, false}},
		{"7F", 127, 127, state{0, true, true}},
		{"80 01", 128, 128, state{0, true, true}},
		{"FF FF FF FF 07", api.MaxCount, api.MaxCount, state{0, true, true}},
		{"FF FF FF FF 07", math.MaxInt, api.MaxCount, state{0, true, true}},
		{"05", 4, 0, failed},
		{"01", 0, 0, failed},
		{"80 01", 127, 0, failed},
		{"FF FF FF FF 07", api.MaxCount - 1, 0, failed},
		{"80 80 80 80 08", api.MaxCount, 0, failed},
		{"80 80 80 80 08", math.MaxInt, 0, failed},
		{"FF FF FF FF 0F", math.MaxInt, 0, failed},
		{"80 80 80 80 10", math.MaxInt, 0, failed},
		{"FF FF FF FF FF FF FF FF 7F", math.MaxInt, 0, failed},
		{"FF FF FF FF FF FF FF FF FF 01", math.MaxInt, 0, failed},
		{"80 80 80 80 80 80 80 80 80 02", math.MaxInt, 0, failed},
		{"00", -1, 0, failed},
		{"05", -1, 0, failed},
		{"00", math.MinInt, 0, failed},
		{"FF FF FF FF FF FF FF FF FF 01", -1, 0, failed},
		{"", 9, 0, failed},
		{"", 0, 0, failed},
		{"", -1, 0, failed},
		{"80", 300, 0, failed},
		{"80 00", 9, 0, failed},
		{"85 00", 9, 0, failed},
		{"85 80 00", 9, 0, failed},
		{"FF FF FF FF 87 00", math.MaxInt, 0, failed},
	} {
		r := code.NewReader(fromHex(t, x.b))
		if got := r.Count(x.most); got != x.want {
			t.Errorf("Count(%d) of %s: %d, want %d", x.most, x.b, got, x.want)
		}
		mustStand(t, "Count of "+x.b, r, x.then)
		if x.then == failed {
			mustTellZeros(t, "Count of "+x.b, r)
		}
	}
}

// P1.2: Str over bytes, with its bound.
func TestReadStr(t *testing.T) {
	for _, x := range []struct {
		b    string
		most int
		want string
		then state
	}{
		{"00", 0, "", state{0, true, true}},
		{"00", 9, "", state{0, true, true}},
		{"02 61 62", 2, "ab", state{0, true, true}},
		{"02 61 62", 9, "ab", state{0, true, true}},
		{"02 61 62", math.MaxInt, "ab", state{0, true, true}},
		{"02 61 62 63", 2, "ab", state{1, true, false}},
		{"02 00 FF", 2, "\x00\xff", state{0, true, true}},
		{"02 61 62", 1, "", failed},
		{"02 61 62", 0, "", failed},
		{"02 61", 9, "", failed},
		{"02", 9, "", failed},
		{"", 9, "", failed},
		{"00", -1, "", failed},
		{"02 61 62", -1, "", failed},
		{"02 61 62", math.MinInt, "", failed},
		{"82 00 61 62", 9, "", failed},
		{"80 00", 9, "", failed},
		{"FF FF FF FF 07 61", api.MaxCount, "", failed},
		{"80 80 80 80 08 61", math.MaxInt, "", failed},
		{"FF FF FF FF FF FF FF FF FF 01 61", math.MaxInt, "", failed},
	} {
		r := code.NewReader(fromHex(t, x.b))
		if got := r.Str(x.most); got != x.want {
			t.Errorf("Str(%d) of %s: %q, want %q", x.most, x.b, got, x.want)
		}
		mustStand(t, "Str of "+x.b, r, x.then)
		if x.then == failed {
			mustTellZeros(t, "Str of "+x.b, r)
		}
	}
}

// P1.2: a text of just the bound, at the places where its length needs a byte more.
func TestReadStrAtTheBound(t *testing.T) {
	for _, n := range []int{0, 1, 127, 128, 129, 16383, 16384, 70000} {
		s := strings.Repeat("z", n)
		b := code.Str(nil, s)
		r := code.NewReader(b)
		if got := r.Str(n); got != s || !r.Done() {
			t.Errorf("Str(%d) of so many bytes: %d bytes, Done %v", n, len(got), r.Done())
		}
		r = code.NewReader(b)
		if got := r.Str(n - 1); got != "" {
			t.Errorf("Str(%d) of one more: %d bytes", n-1, len(got))
		}
		mustStand(t, "a text that is one byte too long", r, failed)
	}
}

// P1.2: Flag over bytes: only 0 and 1 are truth values.
func TestReadFlag(t *testing.T) {
	for x := range 256 {
		r := code.NewReader([]byte{byte(x), 7})
		got := r.Flag()
		if got != (x == 1) {
			t.Errorf("Flag of %02X: %v", x, got)
		}
		want := state{1, true, false}
		if x > 1 {
			want = failed
		}
		mustStand(t, "Flag", r, want)
		if x > 1 {
			mustTellZeros(t, "Flag", r)
		}
	}
	r := code.NewReader(nil)
	if r.Flag() {
		t.Error("Flag of no bytes: true")
	}
	mustStand(t, "Flag of no bytes", r, failed)
}

// P1.2: whichever call fails, all of them tell zeros from then on, though what they ask
// for stands behind.
func TestFailedStaysFailed(t *testing.T) {
	behind := code.Flag(code.Str(code.Num(nil, 77), "there"), true)
	for what, fail := range map[string]struct {
		b  string
		do func(*code.Reader)
	}{
		"Num, a byte too many":  {"80 00", func(r *code.Reader) { r.Num() }},
		"Count above its bound": {"05", func(r *code.Reader) { r.Count(4) }},
		"Count below 0":         {"", func(r *code.Reader) { r.Count(-1) }},
		"Str above its bound":   {"02 61 62", func(r *code.Reader) { r.Str(1) }},
		"Str below 0":           {"", func(r *code.Reader) { r.Str(-1) }},
		"Flag of 2":             {"02", func(r *code.Reader) { r.Flag() }},
	} {
		r := code.NewReader(append(fromHex(t, fail.b), behind...))
		fail.do(r)
		mustStand(t, what, r, failed)
		mustTellZeros(t, what, r)
	}
}

// P1.2: a reader reads what it was made of: not what the caller writes there later, and
// it changes nothing there.
func TestReaderKeepsNothingOfTheCallers(t *testing.T) {
	b := code.Str(code.Num(nil, 300), "text")
	was := string(b)
	r := code.NewReader(b)
	if n := r.Num(); n != 300 || string(b) != was {
		t.Errorf("Num: %d; the bytes %q, were %q", n, b, was)
	}
	scribble(b)
	if s := r.Str(4); s != "text" || !r.Done() {
		t.Errorf("Str of bytes that were changed later: %q, Done %v", s, r.Done())
	}
}

// P1.2: two readers of the same bytes do not see one another.
func TestReadersGoTheirOwnWays(t *testing.T) {
	b := code.Count(code.Count(nil, 1), 2)
	one, two := code.NewReader(b), code.NewReader(b)
	if n := one.Count(9); n != 1 {
		t.Errorf("the first one: %d", n)
	}
	one.Count(-1)
	mustStand(t, "the other one", two, state{2, true, false})
	if n := two.Count(9); n != 1 {
		t.Errorf("the other one: %d", n)
	}
	if n := two.Count(9); n != 2 {
		t.Errorf("the other one, then: %d", n)
	}
}

// P1.3: Left, OK and Done from the beginning to the end.
func TestLeft(t *testing.T) {
	b := code.Flag(code.Str(code.Count(code.Num(nil, -300), 128), "abc"), true)
	r := code.NewReader(b)
	mustStand(t, "at the beginning", r, state{9, true, false})
	r.Num()
	mustStand(t, "behind a number", r, state{7, true, false})
	r.Count(128)
	mustStand(t, "behind a count", r, state{5, true, false})
	r.Str(3)
	mustStand(t, "behind a text", r, state{1, true, false})
	r.Flag()
	mustStand(t, "at the end", r, state{0, true, true})
	mustStand(t, "at the end, asked again", r, state{0, true, true})
	r.Flag()
	mustStand(t, "past the end", r, failed)
	mustStand(t, "past the end, asked again", r, failed)
}

// P1.3: of no bytes all is read; of a nil reader, and of one that was not made by
// NewReader, nothing panics.
func TestNoBytesAndNoReader(t *testing.T) {
	mustStand(t, "of nil", code.NewReader(nil), state{0, true, true})
	mustStand(t, "of none", code.NewReader([]byte{}), state{0, true, true})
	var none *code.Reader
	mustStand(t, "nil", none, failed)
	mustTellZeros(t, "nil", none)
	if n := none.Count(-1); n != 0 {
		t.Errorf("Count(-1) of nil: %d", n)
	}
	if s := none.Str(-1); s != "" {
		t.Errorf("Str(-1) of nil: %q", s)
	}
	made := new(code.Reader)
	made.Left()
	made.Num()
	mustTellZeros(t, "made otherwise", made)
}

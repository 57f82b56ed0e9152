package kv_test

import (
	"fmt"
	"math"
	"slices"
	"strings"
	"testing"

	"buttery/api"
	"buttery/kv"
)

// P8.1, P8.2: all calls of a nil KV, whatever else is wrong.
func TestNil(t *testing.T) {
	var k *kv.KV
	for _, space := range []int{0, 1, 255, -1, 256, math.MinInt, math.MaxInt} {
		for _, n := range []int{0, 1, 47, 48} {
			key := text(n, n)
			mustNotGet(t, k, space, key, api.ErrNil)
			mustNotRange(t, k, space, key, "", api.ErrNil)
			mustNotRange(t, k, space, "", key, api.ErrNil)
			for _, c := range []kv.Change{put(space, key, "v"), gone(space, key), {Space: space, Key: key, Value: "v", Gone: true}, put(space, key, text(1, 8193))} {
				mustNotApply(t, k, api.ErrNil, c)
				mustNotNeed(t, k, api.ErrNil, c)
			}
		}
	}
	mustNotApply(t, k, api.ErrNil)
	mustNotNeed(t, k, api.ErrNil)
	mustNotApply(t, k, api.ErrNil, puts(1, 1000, 1)...)
	mustFree(t, "nil", k, 0)
	mustMost(t, k, 0)
}

// R1: a KV that neither Create nor Open made only doesn't panic.
func TestMadeOtherwise(t *testing.T) {
	k := new(kv.KV)
	k.Get(1, "a")
	k.Range(1, "", "")
	k.Apply([]kv.Change{put(1, "a", "b"), gone(1, "a")})
	k.Apply(nil)
	k.Need([]kv.Change{put(1, "a", "b")})
	k.Free()
	k.Most()
}

// P8.1: spaces that are some, and that are none.
func TestSpaces(t *testing.T) {
	d, k := mustCreate(t, 2000)
	m := mind{}
	for _, space := range []int{0, 1, 2, 127, 128, 254, 255} {
		for i, key := range []string{"", "a", "\xff"} {
			c := put(space, key, fmt.Sprint(space, i))
			mustNotGet(t, k, space, key, api.OK)
			mustApply(t, k, c)
			mustGet(t, k, space, key, c.Value)
			m = m.with(c)
			mustBe(t, "applied", k, m)
		}
	}
	for _, space := range []int{-1, 256, 257, 512, -256, math.MinInt, math.MaxInt} {
		mustNotGet(t, k, space, "a", api.ErrArg)
		mustNotRange(t, k, space, "", "", api.ErrArg)
		for _, c := range []kv.Change{put(space, "a", "v"), gone(space, "a"), put(space, "", "")} {
			mustNotApply(t, k, api.ErrArg, c)
			mustNotNeed(t, k, api.ErrArg, c)
		}
		mustBe(t, "refused", k, m)
	}
	mustBe(t, "opened", mustOpen(t, "opened", d), m)
}

// P8.1: keys of each length, which are there and which are not.
func TestLengthsOfKeys(t *testing.T) {
	_, k := mustCreate(t, 2000)
	m := mind{}
	for n := range maxName + 1 {
		key := strings.Repeat("k", n)
		mustNotGet(t, k, 7, key, api.OK)
		mustApply(t, k, put(7, key, fmt.Sprint(n)))
		m = m.with(put(7, key, fmt.Sprint(n)))
		mustGet(t, k, 7, key, fmt.Sprint(n))
		mustRange(t, k, 7, key, "", m.pairs(7, key, "")...)
		mustRange(t, k, 7, "", key, m.pairs(7, "", key)...)
	}
	mustBe(t, "all", k, m)
	for _, n := range []int{48, 49, 500, 1 << 20} {
		key := strings.Repeat("k", n)
		mustNotGet(t, k, 7, key, api.ErrArg)
		mustNotRange(t, k, 7, key, "", api.ErrArg)
		mustNotRange(t, k, 7, "", key, api.ErrArg)
		mustNotRange(t, k, 7, key, key, api.ErrArg)
		mustNotApply(t, k, api.ErrArg, put(7, key, "v"))
		mustNotApply(t, k, api.ErrArg, gone(7, key))
		mustNotNeed(t, k, api.ErrArg, put(7, key, "v"))
		mustNotNeed(t, k, api.ErrArg, gone(7, key))
	}
	mustBe(t, "refused", k, m)
	for n := range maxName + 1 {
		mustApply(t, k, gone(7, strings.Repeat("k", n)))
		mustNotGet(t, k, 7, strings.Repeat("k", n), api.OK)
	}
	mustBe(t, "gone", k, mind{})
}

// anyKeys are keys of any bytes: 0 and 255 among them, some the beginnings of others.
func anyKeys() []string {
	return []string{
		"", "\x00", "\x00\x00", "\x00\xff", "\x00a", strings.Repeat("\x00", maxName), "\x01", "\x01\x00",
		"a", "a\x00", "a\x00\x00", "a\x01", "aa", "ab", "a\xff", "b", strings.Repeat("b", maxName), "é",
		"\xfe\xff", "\xff", "\xff\x00", "\xff\xfe", "\xff\xff", strings.Repeat("\xff", maxName-1), strings.Repeat("\xff", maxName),
	}
}

// P8.1: all ranges with bounds among keys of any bytes, in the first space, the last one, and
// one between; beside them the others have pairs, too.
func TestRanges(t *testing.T) {
	_, k := mustCreate(t, 2000)
	m := mind{}
	keys := anyKeys()
	for i := range keys {
		key := keys[i*7%len(keys)]
		var l []kv.Change
		for _, space := range []int{255, 0, 9, 8, 10} {
			if space != 8 || i%3 == 0 {
				l = append(l, put(space, key, fmt.Sprint(space, " ", i)))
			}
		}
		mustApply(t, k, l...)
		m = m.with(l...)
	}
	mustBe(t, "all", k, m)
	bounds := append(keys, "\x00\x01", "a\x02", "c", text(3, 46), text(4, 47))
	for _, space := range []int{0, 8, 9, 255, 11, 254} {
		for _, from := range bounds {
			for _, to := range bounds {
				mustRange(t, k, space, from, to, m.pairs(space, from, to)...)
			}
			if v, ok := m[place{space, from}]; ok {
				mustGet(t, k, space, from, v)
			} else {
				mustNotGet(t, k, space, from, api.OK)
			}
		}
	}
}

// P8.1: a range whose end is not above its beginning has nothing.
func TestRangesOfNothing(t *testing.T) {
	_, k := mustCreate(t, 400)
	mustApply(t, k, put(5, "", "0"), put(5, "b", "1"))
	mustApply(t, k, put(4, "b", "2"), put(6, "", "3"))
	for _, b := range [][2]string{{"b", "b"}, {"b", "a"}, {"c", "b"}, {"c", ""}, {"\x00", "b"}, {"b\x00", ""}, {"\xff", "\x00"}} {
		mustRange(t, k, 5, b[0], b[1])
	}
	mustRange(t, k, 5, "", "\x00", kv.Pair{Key: "", Value: "0"})
	mustRange(t, k, 5, "", "b", kv.Pair{Key: "", Value: "0"})
	mustRange(t, k, 5, "b", "b\x00", kv.Pair{Key: "b", Value: "1"})
	mustRange(t, k, 5, "b", "", kv.Pair{Key: "b", Value: "1"})
	mustRange(t, k, 5, "", "b\x00", kv.Pair{Key: "", Value: "0"}, kv.Pair{Key: "b", Value: "1"})
}

// P8.1, P8.2: what a change may not be.
func TestChangesThatMayNotBe(t *testing.T) {
	d, k := mustCreate(t, 2000)
	mustApply(t, k, put(1, "a", "1"))
	m := mind{}.with(put(1, "a", "1"))
	done := d.Done()
	for _, c := range []kv.Change{
		put(256, "a", "x"), put(-1, "a", "x"), gone(256, "a"), gone(-1, "a"),
		put(1, text(1, 48), "x"), gone(1, text(1, 48)),
		put(1, "a", text(1, 8193)), put(1, "a", text(1, 100000)),
		{Space: 1, Key: "a", Value: "x", Gone: true}, {Space: 1, Key: "none", Value: "x", Gone: true},
		{Space: 1, Key: "a", Value: "\x00", Gone: true}, {Space: 1, Key: "a", Value: text(1, 8192), Gone: true},
		{Space: 1, Key: "a", Value: text(1, 8193), Gone: true},
	} {
		for _, l := range [][]kv.Change{
			{c}, {c, put(1, "b", "2")}, {put(1, "b", "2"), c}, {gone(1, "a"), put(2, "b", text(1, 100)), c},
			append(puts(3, 30, 10), c), append([]kv.Change{c}, puts(3, 30, 10)...),
		} {
			mustNotApply(t, k, api.ErrArg, l...)
			mustNotNeed(t, k, api.ErrArg, l...)
		}
	}
	mustBe(t, "refused", k, m)
	if d.Done() != done {
		t.Fatal("what was refused was written")
	}
	mustApply(t, k, put(1, "c", text(2, 8192)), gone(1, "a"))
	mustBe(t, "applied", k, mind{}.with(put(1, "c", text(2, 8192))))
}

// The order of the table: what is wrong with the arguments goes ahead of what the tree answers,
// and that ahead of ErrFull.
func TestOrderOfErrors(t *testing.T) {
	d, k := mustCreate(t, 400)
	mustApply(t, k, put(1, "a", text(1, 100)))
	must(t, "Crash", d.Crash(nil), api.OK)
	mustNotGet(t, k, 256, "a", api.ErrArg)
	mustNotGet(t, k, 1, text(1, 48), api.ErrArg)
	mustNotGet(t, k, 1, "a", api.ErrDead)
	mustNotGet(t, k, 2, "none", api.ErrDead)
	mustNotRange(t, k, -1, "", "", api.ErrArg)
	mustNotRange(t, k, 1, text(1, 48), "", api.ErrArg)
	mustNotRange(t, k, 1, "", text(1, 48), api.ErrArg)
	mustNotRange(t, k, 1, "", "", api.ErrDead)
	mustNotRange(t, k, 1, "b", "a", api.ErrDead)
	for _, l := range [][]kv.Change{{put(1, "a", "x")}, {gone(1, "a")}, {gone(2, "none")}, puts(1, 3, 10)} {
		mustNotApply(t, k, api.ErrDead, l...)
		mustNotNeed(t, k, api.ErrDead, l...)
		l = append(l, put(1, "a", text(1, 8193)))
		mustNotApply(t, k, api.ErrArg, l...)
		mustNotNeed(t, k, api.ErrArg, l...)
	}
	mustFree(t, "dead", k, 298-2)
	mustMost(t, k, 50)

	d, k = mustCreate(t, 400) // of no pair nothing has to be read
	must(t, "Crash", d.Crash(nil), api.OK)
	mustNotApply(t, k, api.ErrFull, puts(1, 3, 10)...)
	mustNotApply(t, k, api.ErrDead, puts(1, 2, 10)...)
	mustNotApply(t, k, api.ErrDead, gone(1, "a"))
	mustFree(t, "dead", k, 298)
}

// P8.2: a batch without changes does nothing, wherever.
func TestNoChange(t *testing.T) {
	d, k := mustCreate(t, 64)
	done := d.Done()
	for _, l := range [][]kv.Change{nil, {}, make([]kv.Change, 0, 5)} {
		mustApply(t, k, l...)
		mustNeed(t, k, 0, l...)
	}
	if d.Done() != done {
		t.Fatal("no change was written")
	}
	must(t, "Crash", d.Crash(nil), api.OK)
	mustApply(t, k)
	mustNeed(t, k, 0)
	mustApply(t, leave(t, 64, 0))
}

// R3: what is told shares no memory with the KV, nor with another answer; and the room behind a
// batch is not read, nor is the batch changed or kept.
func TestMemory(t *testing.T) {
	_, k := mustCreate(t, 2000)
	m := mind{}
	for i := range 30 {
		c := put(1, fmt.Sprint(100+i), text(i, 20*i))
		mustApply(t, k, c)
		m = m.with(c)
	}
	want := m.pairs(1, "", "")
	first, err := k.Range(1, "", "")
	must(t, "Range", err, api.OK)
	second, err := k.Range(1, "", "")
	must(t, "Range", err, api.OK)
	value, _, err := k.Get(1, "129")
	must(t, "Get", err, api.OK)
	for i := range first[:cap(first)] {
		first[:cap(first)][i] = kv.Pair{Key: "scribbled", Value: "scribbled"}
	}
	mustBe(t, "scribbled", k, m)
	for i := range 30 {
		mustApply(t, k, put(1, fmt.Sprint(100+i), text(99+i, 20*i)))
	}
	if !slices.Equal(second, want) || value != text(29, 580) {
		t.Fatal("an answer was changed")
	}

	room := []kv.Change{put(2, "a", "1"), put(2, "b", text(1, 600)), put(2, "beyond", "3"), put(256, "beyond", "4")}
	was := slices.Clone(room)
	mustNeed(t, k, 24+24+4, room[:2]...)
	mustApply(t, k, room[:2]...)
	if !slices.Equal(room, was) {
		t.Fatal("the batch was changed")
	}
	for i := range room {
		room[i] = put(3, "scribbled", "scribbled")
	}
	mustRange(t, k, 2, "", "", kv.Pair{Key: "a", Value: "1"}, kv.Pair{Key: "b", Value: text(1, 600)})
	mustRange(t, k, 3, "", "")
}

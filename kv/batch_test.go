package kv_test

import (
	"fmt"
	"testing"

	"buttery/api"
	"buttery/kv"
)

// lengths are lengths of values about each edge, and in how many long pages they stand.
func lengths() [][2]int {
	return [][2]int{{0, 0}, {1, 0}, {64, 0}, {65, 1}, {480, 1}, {481, 2}, {960, 2}, {961, 3}, {7680, 16}, {7681, 17}, {8160, 17}, {8161, 18}, {8192, 18}}
}

// P8.2: values of each length, put over one another, and gone: what that needs, and how many
// pages are free behind it.
func TestLengthsOfValues(t *testing.T) {
	_, k := mustCreate(t, 2000)
	for _, was := range lengths() {
		for _, is := range lengths() {
			a, b := text(1, was[0]), text(2, is[0])
			mustFree(t, "without pairs", k, 1498)
			mustNeed(t, k, 24+2*was[1], put(3, "k", a))
			mustNeed(t, k, 24, gone(3, "k"))
			mustApply(t, k, put(3, "k", a))
			mustFree(t, "put", k, 1497-was[1])
			mustGet(t, k, 3, "k", a)
			mustNeed(t, k, 24+2*was[1]+2*is[1], put(3, "k", b))
			mustNeed(t, k, 24+2*is[1], put(4, "k", b))
			mustNeed(t, k, 24+2*was[1], gone(3, "k"))
			mustNeed(t, k, 24, gone(4, "k"))
			mustApply(t, k, put(3, "k", b))
			mustFree(t, "put over it", k, 1497-is[1])
			mustGet(t, k, 3, "k", b)
			mustNeed(t, k, 24+2*is[1], gone(3, "k"))
			mustApply(t, k, gone(3, "k"))
			mustNotGet(t, k, 3, "k", api.OK)
			mustApply(t, k, gone(3, "k"))
		}
	}
}

// P8.2: the same key more than once in a batch: each needs what the key's value needs by then,
// and the last one counts.
func TestSameKeyTwice(t *testing.T) {
	x, y, z := text(1, 100), text(2, 961), text(3, 8192) // 1, 3, 18 long pages
	for _, c := range []struct {
		l    []kv.Change
		need int
		want string // none: "none"
	}{
		{[]kv.Change{put(1, "k", x), put(1, "k", y)}, 24 + 6 + 2 + 24 + 2 + 6, y},
		{[]kv.Change{put(1, "k", y), put(1, "k", y)}, 24 + 6 + 6 + 24 + 6 + 6, y},
		{[]kv.Change{put(1, "k", ""), put(1, "k", x)}, 24 + 6 + 24 + 2, x},
		{[]kv.Change{put(1, "k", x), put(1, "k", "")}, 24 + 6 + 2 + 24 + 2, ""},
		{[]kv.Change{put(1, "k", x), gone(1, "k")}, 24 + 6 + 2 + 24 + 2, "none"},
		{[]kv.Change{gone(1, "k"), put(1, "k", x)}, 24 + 6 + 24 + 2, x},
		{[]kv.Change{gone(1, "k"), gone(1, "k")}, 24 + 6 + 24, "none"},
		{[]kv.Change{gone(1, "k"), put(1, "k", "1"), gone(1, "k")}, 24 + 6 + 24 + 24, "none"},
		{[]kv.Change{put(1, "k", z), gone(1, "k"), put(1, "k", z)}, 24 + 6 + 36 + 24 + 36 + 24 + 36, z},
		{[]kv.Change{put(1, "k", x), put(1, "l", "1"), put(1, "k", "2"), gone(1, "l"), put(1, "k", y)}, 24 + 6 + 2 + 24 + 24 + 2 + 24 + 24 + 6, y},
		{[]kv.Change{put(2, "k", x), put(1, "k", "1"), gone(2, "k")}, 24 + 2 + 24 + 6 + 24 + 2, "1"},
		{[]kv.Change{put(1, "", x), put(1, "k", "1"), gone(1, "")}, 24 + 2 + 24 + 6 + 24 + 2, "1"},
	} {
		_, k := mustCreate(t, 2000)
		mustApply(t, k, put(1, "k", y), put(9, "k", "other"))
		m := mind{}.with(put(1, "k", y), put(9, "k", "other"))
		if n := m.need(c.l); n != c.need {
			t.Fatalf("%s: in mind it needs %d, want %d", shownBatch(c.l), n, c.need)
		}
		mustNeed(t, k, c.need, c.l...)
		mustApply(t, k, c.l...)
		mustBe(t, "applied", k, m.with(c.l...))
		if c.want == "none" {
			mustNotGet(t, k, 1, "k", api.OK)
		} else {
			mustGet(t, k, 1, "k", c.want)
		}
		mustFree(t, "applied", k, 1498-1-longOf(m.with(c.l...)[place{1, "k"}]))
	}
}

// P8.2: batches of one and of many, of all spaces.
func TestManyChanges(t *testing.T) {
	d, k := mustCreate(t, 20000)
	mustMost(t, k, 2500)
	m := mind{}
	for i, many := range []int{1, 2, 10, 97, 100} {
		var l []kv.Change
		for j := range many {
			l = append(l, put((i*50+j*3)%spaces, fmt.Sprint("k", j%70), text(j, j)))
		}
		mustNeed(t, k, m.need(l), l...)
		mustApply(t, k, l...)
		m = m.with(l...)
		mustBe(t, "applied", k, m)
	}
	l := m.allGone()[40:130]
	mustApply(t, k, l...)
	m = m.with(l...)
	mustBe(t, "gone", k, m)
	mustBe(t, "opened", mustOpen(t, "opened", d), m)
}

// P8.2: Need tells what a batch needs that would be refused for want of room, and does nothing.
func TestNeedOfTooMuch(t *testing.T) {
	d, k := mustCreate(t, 600)
	mustApply(t, k, put(1, "key 0", text(1, 8192)))
	m := mind{}.with(put(1, "key 0", text(1, 8192)))
	done := d.Done()
	for _, many := range []int{3, 100, 5000} {
		l := puts(1, many, 500)
		mustNeed(t, k, many*(24+4)+36, l...)
		mustNotApply(t, k, api.ErrFull, l...)
		mustNeed(t, k, many*(24+4)+36, l...)
	}
	mustBe(t, "asked", k, m)
	if d.Done() != done {
		t.Fatal("what was asked, or refused, was written")
	}
}

// P8.2: Need tells what is needed now, not what was by then.
func TestNeedOfNow(t *testing.T) {
	_, k := mustCreate(t, 2000)
	for i, n := range lengths() {
		mustApply(t, k, put(1, "k", text(i, n[0])))
		mustNeed(t, k, 24+2*n[1]+2, put(1, "k", text(i, 70)))
		mustNeed(t, k, 24+2*n[1], gone(1, "k"))
		if i%3 == 0 {
			mustApply(t, k, gone(1, "k"))
			mustNeed(t, k, 24+2, put(1, "k", text(i, 70)))
		}
	}
}

// P8.2: an eighth of a disk's sectors, cut; it is that of the disk, whatever is on it.
func TestMost(t *testing.T) {
	for n, want := range map[int]int{64: 8, 71: 8, 72: 9, 79: 9, 80: 10, 191: 23, 192: 24, 400: 50, 2000: 250, 65536: 8192} {
		d, k := mustCreate(t, n)
		mustMost(t, k, want)
		if want >= 24 {
			mustApply(t, k, put(1, "k", "v"))
			mustMost(t, k, want)
		}
		mustMost(t, mustOpen(t, "opened", d), want)
		mustMost(t, mustOpen(t, "crashed", mustCrash(t, d)), want)
	}
}

// P8.2: what was applied lasts: behind a crash that keeps nothing of what waits.
func TestApplyLasts(t *testing.T) {
	d, k := mustCreate(t, 800)
	m := mind{}
	for i := range 60 {
		l := []kv.Change{put(i%4, fmt.Sprint(i%7), text(i, 13*i)), put(255, fmt.Sprint(i), ""), gone(i%3, fmt.Sprint(i%5))}
		mustApply(t, k, l...)
		m = m.with(l...)
		mustBe(t, "crashed", mustOpen(t, "crashed", mustCrash(t, d.Copy())), m)
	}
}

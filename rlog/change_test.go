package rlog_test

import (
	"math"
	"testing"

	"buttery/api"
	"buttery/rlog"
)

// P14.3: entries behind entries, and behind a base.
func TestAppend(t *testing.T) {
	for _, s := range starts() {
		last, term := thought(s.base, s.term, s.l).ends()
		for _, e := range []api.Entry{noop(max(1, term)), noop(maxCount), change(max(1, term), "new"), members(max(1, term), 2, 4)} {
			g, m := mustNew(t, s.base, s.term, s.l), thought(s.base, s.term, s.l)
			if last == maxCount {
				mustAppend(t, g, e, api.ErrExhausted)
			} else {
				mustAppend(t, g, e, api.OK)
				m, _ = m.added(e)
			}
			mustStand(t, "appended", g, m)
		}
	}
}

// P14.3: many, one behind the other, up to the last index.
func TestAppendMany(t *testing.T) {
	l := marked("a", 2, 2, 3, 5, 5, 5, 8, 9, 9, 9, 12)
	for _, base := range []int{0, 7, maxCount - len(l)} {
		g := mustNew(t, base, 1, nil)
		for i, e := range l {
			mustAppend(t, g, e, api.OK)
			mustStand(t, "appended", g, thought(base, 1, l[:i+1]))
		}
		if base > 7 {
			mustAppend(t, g, noop(12), api.ErrExhausted)
			mustAppend(t, g, noop(11), api.ErrArg)
			mustStand(t, "exhausted", g, thought(base, 1, l))
		}
	}
}

// P14.3, R4: Append's errors, each by itself and several at once; nothing has changed.
func TestAppendRefused(t *testing.T) {
	for _, s := range starts() {
		g, m := mustNew(t, s.base, s.term, s.l), thought(s.base, s.term, s.l)
		_, term := m.ends()
		for _, e := range badEntries() {
			mustAppend(t, g, e, api.ErrArg)
		}
		for _, low := range []int{term - 1, term - 2, 1} {
			if low < term {
				mustAppend(t, g, noop(low), api.ErrArg)
				mustAppend(t, g, members(low, 1, 2, 3), api.ErrArg)
				mustAppend(t, g, badEntry(), api.ErrArg)
			}
		}
		mustHaveEnds(t, "refused", g, m)
		mustStand(t, "refused", g, m)
	}
}

// merges asks what a Merge answers, and what stands behind it, of a log that is made anew.
func merges(t *testing.T, s start, prev, term int, l []api.Entry, want int, wantErr api.Errno, stands ...api.Entry) {
	t.Helper()
	g := mustNew(t, s.base, s.term, s.l)
	mustMerge(t, g, prev, term, l, want, wantErr)
	mustStand(t, "merged", g, thought(s.base, s.term, stands))
}

// P14.3: one log, and pieces that end, begin and part at each place, told one by one.
func TestMerge(t *testing.T) {
	l := marked("log", 2, 2, 4, 4) // at 11 to 14
	s := start{10, 1, l}
	x := marked("x", 2, 2, 4, 4, 4, 4, 4, 9)
	join := func(a []api.Entry, b ...api.Entry) []api.Entry { return append(cloned(a), b...) }
	// Empty pieces: below the base, at it, above, at the last.
	merges(t, s, 0, 0, nil, 0, api.OK, l...)
	merges(t, s, 9, 7, nil, 0, api.OK, l...)
	merges(t, s, 10, 1, nil, 0, api.OK, l...)
	merges(t, s, 12, 2, []api.Entry{}, 0, api.OK, l...)
	merges(t, s, 14, 4, nil, 0, api.OK, l...)
	// They part nowhere: what is there stays as it is, what stands behind too.
	merges(t, s, 10, 1, x[:1], 0, api.OK, l...)
	merges(t, s, 10, 1, x[:4], 0, api.OK, l...)
	merges(t, s, 11, 2, x[1:2], 0, api.OK, l...)
	merges(t, s, 12, 2, x[2:4], 0, api.OK, l...)
	merges(t, s, 13, 4, noops(4), 0, api.OK, l...)
	// They go on behind the last.
	merges(t, s, 10, 1, x[:5], 15, api.OK, join(l, x[4])...)
	merges(t, s, 12, 2, x[2:], 15, api.OK, join(l, x[4:]...)...)
	merges(t, s, 14, 4, x[6:], 15, api.OK, join(l, x[6:]...)...)
	// They part at the first entry, in the middle, at the last.
	merges(t, s, 10, 1, noops(1), 11, api.OK, noops(1)...)
	merges(t, s, 10, 1, noops(3, 4), 11, api.OK, noops(3, 4)...)
	merges(t, s, 10, 1, noops(2, 3, 4, 4), 12, api.OK, join(l[:1], noops(3, 4, 4)...)...)
	merges(t, s, 12, 2, noops(3), 13, api.OK, join(l[:2], noop(3))...)
	merges(t, s, 12, 2, noops(4, 5), 14, api.OK, join(l[:3], noop(5))...)
	merges(t, s, 13, 4, noops(7, 7, 7), 14, api.OK, join(l[:3], noops(7, 7, 7)...)...)
	// They end below the base and at it; above it.
	merges(t, s, 3, 1, noops(1, 5, 9), 0, api.OK, l...)
	merges(t, s, 7, 1, noops(5, 7, 9), 0, api.OK, l...)
	merges(t, s, 7, 1, noops(5, 7, 9, 9), 11, api.OK, noops(9)...)
	merges(t, s, 8, 0, noops(1, 1, 2, 2), 0, api.OK, l...)
	merges(t, s, 8, 0, noops(1, 1, 2, 3, 3, 3), 12, api.OK, join(l[:1], noops(3, 3, 3)...)...)
	merges(t, s, 9, 2, noops(2, 2, 2, 4, 4, 4), 15, api.OK, join(l, noop(4))...)
	merges(t, s, 9, 1, noops(1, 1), 11, api.OK, noops(1)...)
	// No entry at prev, or one of another term.
	merges(t, s, 10, 0, noops(2), 0, api.ErrState, l...)
	merges(t, s, 10, 2, nil, 0, api.ErrState, l...)
	merges(t, s, 12, 1, noops(4), 0, api.ErrState, l...)
	merges(t, s, 14, 5, noops(5), 0, api.ErrState, l...)
	merges(t, s, 15, 4, nil, 0, api.ErrState, l...)
	merges(t, s, maxCount, 4, nil, 0, api.ErrState, l...)
	// The first one behind the base is of a term below the base's.
	s = start{10, 2, l}
	merges(t, s, 9, 0, noops(1), 0, api.OK, l...)
	merges(t, s, 9, 0, noops(1, 1), 0, api.ErrArg, l...)
	merges(t, s, 7, 0, noops(1, 1, 1, 1, 9), 0, api.ErrArg, l...)
	merges(t, s, 7, 0, noops(1, 1, 1, 2, 9), 12, api.OK, join(l[:1], noop(9))...)
}

// P14.3: what is in a log of a term stays, though the piece has another Data or List there.
func TestMergeKeepsWhatIsThere(t *testing.T) {
	l := []api.Entry{change(1, "a"), members(1, 1, 2), noop(2)}
	g := mustNew(t, 0, 0, l)
	mustMerge(t, g, 0, 0, []api.Entry{change(1, "b"), members(1, 3), members(2, 4), noop(2)}, 4, api.OK)
	mustStand(t, "merged", g, thought(0, 0, append(cloned(l), noop(2))))
}

// P14.3, R4: Merge's errors, each by itself and several at once, in their order; nothing has
// changed.
func TestMergeRefused(t *testing.T) {
	for _, s := range []start{
		{0, 0, nil}, {0, 0, marked("s", 1, 2, 2)}, {2, 2, marked("s", 2, 2, 2)}, {5, 3, marked("s", 3, 4)}, {5, 0, nil},
		{maxCount - 2, 2, marked("s", 2, 2)}, {maxCount - 2, 1, noops(9)}, {maxCount, 2, nil},
	} {
		g, m := mustNew(t, s.base, s.term, s.l), thought(s.base, s.term, s.l)
		for _, x := range wrongPieces() {
			mustMerge(t, g, x.base, x.term, x.l, 0, api.ErrArg)
		}
		for n := 1; n < 5; n++ {
			for _, term := range []int{0, 1, 2, 9} {
				l := noops(9, 9, 10, 11)[:n]
				for over := 1; over <= n; over++ {
					mustMerge(t, g, maxCount-n+over, term, l, 0, api.ErrExhausted)
					mustMerge(t, g, maxCount-n+over, 10, l, 0, api.ErrArg)
					mustMerge(t, g, maxCount-n+over, term, append(cloned(l), badEntry()), 0, api.ErrArg)
				}
			}
		}
		last, _ := m.ends()
		for _, prev := range []int{s.base, s.base + 1, last, last + 1, maxCount} {
			have, ok := m.termAt(prev)
			for _, term := range []int{0, 1, 2, 3, 9, maxCount} {
				if prev > last && prev <= maxCount || ok && have != term {
					mustMerge(t, g, prev, term, nil, 0, api.ErrState)
					mustMerge(t, g, prev, term, []api.Entry{badEntry()}, 0, api.ErrArg)
				}
			}
		}
		for below := 1; below <= min(s.base, 3) && s.term > 1; below++ {
			want := api.ErrArg
			if s.base == maxCount {
				want = api.ErrExhausted
			}
			mustMerge(t, g, s.base-below, 0, noops(1, 1, 1, 1)[:below+1], 0, want)
		}
		mustStand(t, "refused", g, m)
	}
}

// P14.3: just up to the last index.
func TestMergeUpToTheEnd(t *testing.T) {
	for n := range 4 {
		s := start{maxCount - 4, 2, marked("s", 2, 3)}
		l := noops(3, 3, 5, 7)[:n]
		g, m := mustNew(t, s.base, s.term, s.l), thought(s.base, s.term, s.l)
		want, err := 0, api.OK
		if n > 0 {
			want = maxCount - 1
		}
		if n > 2 {
			want, err = 0, api.ErrExhausted
		} else {
			m = thought(s.base, s.term, append(cloned(s.l), l...))
		}
		mustMerge(t, g, maxCount-2, 3, l, want, err)
		mustStand(t, "merged", g, m)
	}
	merges(t, start{maxCount, 2, nil}, maxCount-1, 1, noops(1), 0, api.OK)
	merges(t, start{maxCount, 2, nil}, maxCount, 2, nil, 0, api.OK)
	merges(t, start{maxCount - 1, 2, nil}, maxCount-1, 2, noops(5), maxCount, api.OK, noop(5))
}

// rising are all rows of at most n terms from 1 to most that don't fall.
func rising(n, most int) [][]int {
	l := [][]int{nil}
	for i := 0; i < len(l); i++ {
		low := 1
		if len(l[i]) > 0 {
			low = l[i][len(l[i])-1]
		}
		for term := low; term <= most && len(l[i]) < n; term++ {
			l = append(l, append(l[i][:len(l[i]):len(l[i])], term))
		}
	}
	return l
}

// P14.3: all short pieces into all short logs.
func TestMergeAllShort(t *testing.T) {
	turned := 0
	for _, base := range []int{0, 2} {
		for term := range 3 {
			for _, terms := range rising(3, 3) {
				if len(terms) > 0 && terms[0] < term {
					continue
				}
				s := start{base, term, marked("log", terms...)}
				for prev := range base + 5 {
					for prevTerm := range 4 {
						for _, piece := range rising(4, 3) {
							turned += mergesAsInMind(t, s, prev, prevTerm, marked("p", piece...))
						}
					}
				}
			}
		}
	}
	if turned < 1000 {
		t.Errorf("just %d were turned", turned)
	}
}

// mergesAsInMind merges into a log that is made anew, and in mind; 1, if something was turned.
func mergesAsInMind(t *testing.T, s start, prev, term int, l []api.Entry) int {
	t.Helper()
	g := mustNew(t, s.base, s.term, s.l)
	m, want, err := thought(s.base, s.term, s.l).merged(prev, term, l)
	mustMerge(t, g, prev, term, l, want, err)
	last, lastTerm := m.ends()
	if i, x := g.Last(); i != last || x != lastTerm || !sameAll(g.From(0, math.MaxInt), m.list()) {
		t.Fatalf("%v, merged at %d %d: %s: %s, want %s", s, prev, term, shown(l), shown(g.From(0, math.MaxInt)), shown(m.list()))
	}
	return min(want, 1)
}

// P14.3: cuts at all indices, of logs of all kinds; what is left, and what is refused.
func TestCut(t *testing.T) {
	for _, s := range starts() {
		for _, i := range thought(s.base, s.term, s.l).indices() {
			g, m := mustNew(t, s.base, s.term, s.l), thought(s.base, s.term, s.l)
			var want api.Errno
			m, want = m.cut(i)
			mustCut(t, g, i, want)
			if base, _ := g.Base(); want == api.OK && base != i {
				t.Fatalf("Cut(%d): the base is %d", i, base)
			}
			mustStand(t, "cut", g, m)
		}
	}
}

// P14.3: cuts one behind the other, and what comes behind them.
func TestCutAndGoOn(t *testing.T) {
	l := marked("l", 2, 2, 3, 5, 5, 8)
	g := mustNew(t, 3, 1, l)
	for i := 3; i <= 9; i++ {
		mustCut(t, g, i, api.OK)
		term := 1
		if i > 3 {
			term = l[i-4].Term
		}
		mustStand(t, "cut", g, thought(i, term, l[i-3:]))
		mustCut(t, g, i-1, api.ErrArg)
		mustCut(t, g, 10, api.ErrArg)
		mustStand(t, "cut once more", g, thought(i, term, l[i-3:]))
	}
	mustAppend(t, g, noop(7), api.ErrArg)
	mustAppend(t, g, noop(8), api.OK)
	mustMerge(t, g, 9, 8, noops(8, 9), 11, api.OK)
	mustMerge(t, g, 7, 5, noops(5, 7, 7), 0, api.ErrArg)
	mustMerge(t, g, 7, 5, noops(5, 8, 8), 0, api.OK)
	mustStand(t, "gone on", g, thought(9, 8, noops(8, 9)))
}

// P14.3: Reset, of logs without entries and with some.
func TestReset(t *testing.T) {
	for _, s := range starts() {
		g := mustNew(t, s.base, s.term, s.l)
		m := thought(s.base, s.term, s.l)
		for _, base := range ints() {
			for _, term := range ints() {
				var want api.Errno
				m, want = m.reset(base, term)
				bad := base < 0 || base > maxCount || term < 0 || term > maxCount
				if bad != (want == api.ErrArg) {
					t.Fatal(base, term, want)
				}
				mustReset(t, g, base, term, want)
				if i, x := g.Last(); want == api.OK && (i != base || x != term) {
					t.Fatalf("Reset(%d, %d): Last: %d %d", base, term, i, x)
				}
			}
		}
		mustStand(t, "reset", g, m)
	}
}

// P14.3, R4: a Reset that is refused changes nothing of a log with entries.
func TestResetRefused(t *testing.T) {
	for _, s := range starts() {
		g := mustNew(t, s.base, s.term, s.l)
		for _, n := range []int{-1, -2, past(), math.MinInt} {
			for _, ok := range []int{0, 1, maxCount} {
				mustReset(t, g, n, ok, api.ErrArg)
				mustReset(t, g, ok, n, api.ErrArg)
				mustReset(t, g, n, n, api.ErrArg)
			}
		}
		mustStand(t, "refused", g, thought(s.base, s.term, s.l))
		for _, n := range []int{0, 1, maxCount - 1, maxCount} {
			mustReset(t, g, n, maxCount-n, api.OK)
			mustStand(t, "reset", g, thought(n, maxCount-n, nil))
		}
	}
}

// P14.3: behind a Reset it goes on as a log that was made so.
func TestResetAndGoOn(t *testing.T) {
	g := mustNew(t, 3, 1, marked("l", 2, 2, 3))
	mustReset(t, g, 1, 5, api.OK)
	mustAppend(t, g, noop(4), api.ErrArg)
	mustAppend(t, g, noop(5), api.OK)
	mustMerge(t, g, 0, 1, noops(1, 5, 6), 3, api.OK)
	mustStand(t, "gone on", g, thought(1, 5, noops(5, 6)))
	mustReset(t, g, maxCount, 0, api.OK)
	mustAppend(t, g, noop(1), api.ErrExhausted)
	var none *rlog.Log
	mustReset(t, none, 0, 0, api.ErrNil)
}

package rlog_test

import (
	"math"
	"slices"
	"testing"

	"buttery/api"
	"buttery/rlog"
)

// start is what a log is made of.
type start struct {
	base, term int
	l          []api.Entry
}

// starts are logs of all kinds: without entries and with some, from the first index to the last.
func starts() []start {
	list := []api.Entry{noop(2), members(2, 1, 2, 3), change(3, ""), members(3, 2), noop(3), change(9, text("q", 256)), members(maxCount, 1, 2, 3, 4, 5)}
	var l []start
	for _, base := range []int{0, 1, 2, 5, 1000, maxCount - 7, maxCount - 3, maxCount - 1, maxCount} {
		for _, term := range []int{0, 1, 2} {
			for n := range list {
				if base <= maxCount-n {
					l = append(l, start{base, term, list[:n]})
				}
			}
		}
		l = append(l, start{base, maxCount, nil}, start{base, maxCount - 1, nil})
		if base < maxCount-3 {
			l = append(l, start{base, maxCount, noops(maxCount, maxCount)}, start{base, 0, list[1:3]}, start{base, 3, list[3:]})
		}
	}
	return l
}

// P14.2: what logs of all kinds tell, at all indices that matter.
func TestNew(t *testing.T) {
	for _, s := range starts() {
		mustStand(t, "made", mustNew(t, s.base, s.term, s.l), thought(s.base, s.term, s.l))
	}
	mustStand(t, "empty", mustNew(t, 4, 2, []api.Entry{}), thought(4, 2, nil))
}

// P14.2: what one log tells, told one by one.
func TestTold(t *testing.T) {
	l := []api.Entry{noop(2), members(2, 1, 2), change(4, "x")}
	g := mustNew(t, 10, 1, l)
	if i, term := g.Base(); i != 10 || term != 1 {
		t.Error("Base:", i, term)
	}
	if i, term := g.Last(); i != 13 || term != 4 {
		t.Error("Last:", i, term)
	}
	for i, want := range map[int]int{10: 1, 11: 2, 12: 2, 13: 4} {
		if term, ok := g.Term(i); term != want || !ok {
			t.Errorf("Term(%d): %d, %v", i, term, ok)
		}
		if e, ok := g.Entry(i); i > 10 && (!same(e, l[i-11]) || !ok) {
			t.Errorf("Entry(%d): %s, %v", i, shown(e), ok)
		}
	}
	for _, i := range []int{math.MinInt, -1, 0, 1, 9, 14, 15, maxCount, math.MaxInt} {
		if term, ok := g.Term(i); term != 0 || ok {
			t.Errorf("Term(%d): %d, %v", i, term, ok)
		}
		if e, ok := g.Entry(i); !same(e, api.Entry{}) || ok {
			t.Errorf("Entry(%d): %s, %v", i, shown(e), ok)
		}
	}
	if e, ok := g.Entry(10); !same(e, api.Entry{}) || ok {
		t.Errorf("Entry(10): %s, %v", shown(e), ok)
	}
}

// P14.2: From, told one by one: most below 1, 1, as many as there are, more, the greatest.
func TestFrom(t *testing.T) {
	l := []api.Entry{noop(2), members(2, 1, 2), change(4, "x")}
	g := mustNew(t, 10, 1, l)
	for _, x := range []struct {
		i, most int
		want    []api.Entry
	}{
		{11, 0, nil}, {11, -1, nil}, {11, math.MinInt, nil}, {math.MinInt, 0, nil},
		{11, 1, l[:1]}, {11, 2, l[:2]}, {11, 3, l}, {11, 4, l}, {11, math.MaxInt, l},
		{10, 1, l[:1]}, {10, 9, l}, {1, 2, l[:2]}, {0, 3, l}, {-1, 3, l}, {math.MinInt, 3, l}, {math.MinInt, math.MaxInt, l}, {math.MinInt + 1, 1, l[:1]},
		{12, 1, l[1:2]}, {12, 2, l[1:]}, {12, 3, l[1:]}, {12, math.MaxInt, l[1:]},
		{13, 1, l[2:]}, {13, 2, l[2:]}, {14, 1, nil}, {14, math.MaxInt, nil}, {maxCount, 3, nil}, {math.MaxInt, math.MaxInt, nil},
	} {
		if got := g.From(x.i, x.most); !sameAll(got, x.want) {
			t.Errorf("From(%d, %d): %s, want %s", x.i, x.most, shown(got), shown(x.want))
		}
	}
}

// P14.2: Above, told one by one, of a log with entries and of one that has a base alone.
func TestAbove(t *testing.T) {
	for _, s := range []start{{5, 1, noops(1, 2, 4)}, {8, 4, nil}} {
		g := mustNew(t, s.base, s.term, s.l)
		for _, x := range []struct {
			i, term int
			want    bool
		}{
			{8, 4, true}, {9, 4, true}, {math.MaxInt, 4, true}, {7, 4, false}, {0, 4, false}, {-1, 4, false}, {math.MinInt, 4, false},
			{0, 5, true}, {7, 5, true}, {math.MinInt, 5, true}, {math.MinInt, math.MaxInt, true}, {8, 5, true}, {9, 5, true},
			{8, 3, false}, {9, 3, false}, {math.MaxInt, 3, false}, {math.MaxInt, 0, false}, {math.MaxInt, -1, false}, {math.MaxInt, math.MinInt, false},
		} {
			if got := g.Above(x.i, x.term); got != x.want {
				t.Errorf("%v: Above(%d, %d): %v", s, x.i, x.term, got)
			}
		}
	}
}

// P14.2: Members, told one by one, at, above and below entries of that Kind, and with none.
func TestMembers(t *testing.T) {
	g := mustNew(t, 10, 1, []api.Entry{noop(1), members(1, 1, 2), change(1, "x"), members(2, 4), noop(2)})
	for i, want := range map[int][]int{
		math.MinInt: nil, -1: nil, 0: nil, 9: nil, 10: nil, 11: nil,
		12: {1, 2}, 13: {1, 2}, 14: {4}, 15: {4}, 16: {4}, maxCount - 1: {4}, math.MaxInt: {4},
	} {
		if l, ok := g.Members(i); !slices.Equal(l, want) || ok != (want != nil) {
			t.Errorf("Members(%d): %v, %v, want %v", i, l, ok, want)
		}
	}
	mustCut(t, g, 12, api.OK)
	if l, ok := g.Members(13); len(l) != 0 || ok {
		t.Errorf("Members(13) behind the cut: %v, %v", l, ok)
	}
	mustCut(t, g, 14, api.OK)
	none := mustNew(t, 3, 1, []api.Entry{noop(1), change(1, "x")})
	for _, g := range []*rlog.Log{g, none} {
		for _, i := range ints() {
			if l, ok := g.Members(i); len(l) != 0 || ok {
				t.Errorf("Members(%d): %v, %v", i, l, ok)
			}
		}
	}
}

// wrongPieces are entries, an index and a term that are refused with ErrArg, whatever index of
// those that may be they are to stand behind.
func wrongPieces() []start {
	var l []start
	for _, n := range badTerms() {
		if n == 0 {
			continue // no entry's term, but a base's
		}
		l = append(l, start{n, 1, nil}, start{n, 1, noops(1)}, start{2, n, nil}, start{2, n, noops(maxCount)}, start{n, n, nil})
	}
	for _, e := range badEntries() {
		l = append(l, start{2, 0, []api.Entry{e}}, start{2, 0, []api.Entry{noop(1), e}}, start{2, 0, []api.Entry{e, noop(maxCount)}},
			start{2, 0, []api.Entry{noop(1), e, noop(maxCount)}}, start{maxCount, 0, []api.Entry{e}}, start{2, 9, []api.Entry{e, noop(1)}})
	}
	for _, terms := range [][]int{{1}, {1, 2}, {1, 3, 4}, {3, 2}, {2, 1}, {3, 4, 3}, {3, 3, 2}, {9, 8}, {maxCount, maxCount - 1}, {3, 9, 1, 9}} {
		l = append(l, start{2, 2, noops(terms...)}, start{maxCount, 2, noops(terms...)}, start{maxCount - 1, 2, marked("w", terms...)})
	}
	return append(l, start{0, maxCount, noops(maxCount - 1)}, start{0, 2, noops(1)}, start{-1, -1, []api.Entry{{}}}, start{-1, 3, noops(2)})
}

// P14.2: New's errors, each by itself and several at once: ErrArg goes ahead of ErrExhausted.
func TestNewRefused(t *testing.T) {
	for _, s := range wrongPieces() {
		if wrong(s.base, s.term, s.l) != api.ErrArg {
			t.Fatalf("%v is no wrong one", s)
		}
		mustNotNew(t, s.base, s.term, s.l, api.ErrArg)
	}
	for n := range 5 {
		l := marked("n", 2, 2, 3, 3, 9)[:n]
		mustStand(t, "just up to the last index", mustNew(t, maxCount-n, 2, l), thought(maxCount-n, 2, l))
		for more := range n {
			mustNotNew(t, maxCount-more, 2, l, api.ErrExhausted)
			mustNotNew(t, maxCount-more, 3, l, api.ErrArg)
			mustNotNew(t, maxCount-more, 2, append(cloned(l), badEntry()), api.ErrArg)
		}
	}
	mustNotNew(t, maxCount, maxCount, noops(maxCount), api.ErrExhausted)
}

// P14.2: of nil all tells zeros, none and false; Above tells true; a copy is nil.
func TestNil(t *testing.T) {
	var g *rlog.Log
	for _, i := range ints() {
		for _, j := range ints() {
			if !g.Above(i, j) || len(g.From(i, j)) != 0 {
				t.Errorf("Above(%d, %d): %v, From: %v", i, j, g.Above(i, j), g.From(i, j))
			}
			mustReset(t, g, i, j, api.ErrNil)
			for _, l := range [][]api.Entry{nil, noops(1), {badEntry()}} {
				mustMerge(t, g, i, j, l, 0, api.ErrNil)
			}
		}
		if term, ok := g.Term(i); term != 0 || ok {
			t.Errorf("Term(%d): %d, %v", i, term, ok)
		}
		if e, ok := g.Entry(i); !same(e, api.Entry{}) || ok {
			t.Errorf("Entry(%d): %s, %v", i, shown(e), ok)
		}
		if l, ok := g.Members(i); len(l) != 0 || ok {
			t.Errorf("Members(%d): %v, %v", i, l, ok)
		}
		mustCut(t, g, i, api.ErrNil)
	}
	for _, e := range append(badEntries(), noop(1)) {
		mustAppend(t, g, e, api.ErrNil)
	}
	if i, term := g.Base(); i != 0 || term != 0 {
		t.Error("Base:", i, term)
	}
	if i, term := g.Last(); i != 0 || term != 0 {
		t.Error("Last:", i, term)
	}
	if g.Copy() != nil {
		t.Error("a copy of nil")
	}
}

package ballot_test

import (
	"math"
	"testing"
)

// P15.2: terms below, the same and above, with indices below, the same and above.
func TestNewer(t *testing.T) {
	for _, x := range []struct {
		aTerm, aIndex, bTerm, bIndex int
		want                         bool
	}{
		{2, 2, 2, 1, true}, {2, 2, 2, 2, true}, {2, 2, 2, 3, false},
		{3, 2, 2, 1, true}, {3, 2, 2, 2, true}, {3, 2, 2, 3, true},
		{1, 2, 2, 1, false}, {1, 2, 2, 2, false}, {1, 2, 2, 3, false},
		{0, 0, 0, 0, true}, {1, 1, 0, 0, true}, {0, 0, 1, 1, false}, // no entry, on either side
		{1, 0, 0, 9, true}, {0, 9, 1, 0, false},
		{maxCount, 1, maxCount, 1, true}, {maxCount, 1, maxCount, 2, false}, {maxCount, 1, maxCount - 1, 2, true},
		{-1, 0, -2, 5, true}, {-2, 5, -1, 0, false}, {-1, -1, -1, -2, true}, {-1, -2, -1, -1, false},
		{math.MaxInt, 0, math.MinInt, 0, true}, {math.MinInt, 0, math.MaxInt, 0, false},
		{math.MinInt, math.MaxInt, math.MaxInt, math.MinInt, false}, {math.MaxInt, math.MinInt, math.MinInt, math.MaxInt, true},
		{1, math.MaxInt, 1, math.MinInt, true}, {1, math.MinInt, 1, math.MaxInt, false},
		{math.MinInt, math.MinInt, math.MinInt, math.MinInt, true}, {math.MaxInt, math.MaxInt, math.MaxInt, math.MaxInt, true},
	} {
		mustBeNewer(t, x.aTerm, x.aIndex, x.bTerm, x.bIndex, x.want)
	}
}

// P15.2: all numbers with all numbers.
func TestNewerOfAllNumbers(t *testing.T) {
	for _, aTerm := range ints() {
		for _, bTerm := range ints() {
			for _, aIndex := range ints() {
				for _, bIndex := range ints() {
					want := aTerm > bTerm
					if aTerm == bTerm {
						want = aIndex >= bIndex
					}
					mustBeNewer(t, aTerm, aIndex, bTerm, bIndex, want)
				}
			}
		}
	}
}

// P15.2: the candidate's term below, the same and above; a vote for nobody, for the candidate, for
// another; the candidate 0, below 0 and above; newer and not.
func TestGrants(t *testing.T) {
	for _, x := range []struct {
		vote, candTerm, cand int
		newer, want          bool
	}{
		{0, 3, 1, true, true}, {1, 3, 1, true, true}, {2, 3, 1, true, false},
		{0, 4, 1, true, true}, {1, 4, 1, true, true}, {2, 4, 1, true, true},
		{0, 2, 1, true, false}, {1, 2, 1, true, false}, {2, 2, 1, true, false},
		{0, 3, 1, false, false}, {1, 3, 1, false, false}, {2, 3, 1, false, false},
		{0, 4, 1, false, false}, {1, 4, 1, false, false}, {2, 4, 1, false, false},
		{0, 2, 1, false, false}, {1, 2, 1, false, false},
		{0, 3, 0, true, false}, {0, 4, 0, true, false}, {1, 3, 0, true, false}, {1, 4, 0, true, false},
		{0, 3, -1, true, false}, {0, 4, -1, true, false}, {-1, 3, -1, true, false}, {-1, 4, -1, true, false},
		{0, 3, math.MinInt, true, false}, {math.MinInt, 4, math.MinInt, true, false},
		{-1, 3, 1, true, false}, {-1, 4, 1, true, true}, // it voted, though for no store
		{5, 3, 5, true, true}, {5, 3, 4, true, false}, {4, 3, 5, true, false},
		{0, math.MaxInt, 1, true, true}, {2, math.MaxInt, 1, true, true}, {0, math.MinInt, 1, true, false},
	} {
		mustGrant(t, 3, x.vote, x.candTerm, x.cand, x.newer, x.want)
	}
	mustGrant(t, 0, 0, 0, 1, true, true)
	mustGrant(t, 0, 0, 1, 1, true, true)
	mustGrant(t, 0, 0, -1, 1, true, false)
	mustGrant(t, math.MinInt, 2, math.MaxInt, 1, true, true)
	mustGrant(t, math.MaxInt, 2, math.MinInt, 2, true, false)
	mustGrant(t, math.MinInt, 0, math.MinInt, 1, true, true)
	mustGrant(t, math.MaxInt, 1, math.MaxInt, 1, true, true)
	mustGrant(t, math.MaxInt, 2, math.MaxInt, 1, true, false)
}

// P15.2: all numbers with all numbers.
func TestGrantsOfAllNumbers(t *testing.T) {
	some := []int{math.MinInt, -1, 0, 1, 2, 3, 5, maxCount, math.MaxInt}
	for _, term := range some {
		for _, vote := range some {
			for _, candTerm := range some {
				for _, cand := range some {
					for _, newer := range []bool{false, true} {
						mustGrant(t, term, vote, candTerm, cand, newer, mindGrants(term, vote, candTerm, cand, newer))
					}
				}
			}
		}
	}
}

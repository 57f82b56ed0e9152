package ballot_test

import (
	"fmt"
	"math"
	"slices"
	"testing"

	"buttery/api"
	"buttery/ballot"
)

// The chapter's numbers, written out.
const (
	maxCount  = 2147483647
	maxStores = 5
	maxTicks  = 1000
)

// list is a list of these numbers.
func list(l ...int) []int { return l }

// ints are numbers of all kinds.
func ints() []int {
	return []int{math.MinInt, math.MinInt + 1, math.MinInt32, -2, -1, 0, 1, 2, 3, 4, 5, 6, 7, 101, maxCount - 1, maxCount, math.MaxInt - 1, math.MaxInt}
}

// subset are the stores that a number's bits say, rising: of 1 to 31 these are all voters that
// may be.
func subset(bits int) []int {
	var l []int
	for store := 1; store <= maxStores; store++ {
		if bits>>(store-1)&1 == 1 {
			l = append(l, store)
		}
	}
	return l
}

// allVoters are all voters that may be.
func allVoters() [][]int {
	var all [][]int
	for bits := 1; bits < 1<<maxStores; bits++ {
		all = append(all, subset(bits))
	}
	return all
}

// wrongVoters are voters of each kind that may not be.
func wrongVoters() [][]int {
	return [][]int{
		nil, {},
		{0}, {-1}, {6}, {7}, {math.MinInt}, {math.MaxInt}, {maxCount}, {101}, {201},
		{0, 1}, {-1, 1}, {math.MinInt, 1}, {0, 1, 2, 3, 4, 5}, {-1, 2, 3},
		{1, 6}, {5, 6}, {1, math.MaxInt}, {1, 2, 3, 4, 6}, {1, 2, 3, 4, 5, 6}, {2, 3, 4, 5, 7},
		{1, 1}, {5, 5}, {1, 1, 2}, {1, 2, 2}, {1, 3, 3, 5}, {1, 1, 1, 1, 1}, {1, 2, 3, 4, 5, 5}, {1, 1, 1, 1, 1, 1},
		{2, 1}, {5, 1}, {3, 2, 1}, {1, 3, 2}, {2, 1, 3}, {1, 2, 3, 5, 4}, {5, 4, 3, 2, 1},
		{1, 2, 1}, {1, 5, 2, 6}, {0, 0}, {6, 6}, {-1, 0}, {0, -1}, {6, 1}, {1, 0}, {1, -1}, {2, 0, 3}, {1, math.MinInt}, {math.MaxInt, math.MinInt},
	}
}

// lists are all lists of at most so many numbers, each one of some.
func lists(most int, some ...int) [][]int {
	all := [][]int{nil}
	for ends := 0; most > 0; most-- {
		begin := ends
		ends = len(all)
		for _, l := range all[begin:ends] {
			for _, n := range some {
				all = append(all, append(slices.Clone(l), n))
			}
		}
	}
	return all
}

// falling is a list, turned about.
func falling(l []int) []int {
	c := slices.Clone(l)
	slices.Reverse(c)
	return c
}

// roomy is a list behind whose end other numbers stand.
func roomy(l []int, behind ...int) []int { return append(slices.Clone(l), behind...)[:len(l)] }

// whole is all that a list's memory has, also behind its end.
func whole(l []int) []int { return l[:cap(l)] }

// spoil writes over a list, adds to it, and writes over what stands behind its end.
func spoil(l []int, bad int) {
	_ = append(l, bad)
	for i := range whole(l) {
		whole(l)[i] = bad
	}
}

// shown is a list as a text, cut where it is long.
func shown(l []int) string {
	if len(l) > 20 {
		return fmt.Sprintf("%d numbers: %v ..", len(l), l[:20])
	}
	return fmt.Sprint(l)
}

// mustCheck asks whether voters may be.
func mustCheck(t *testing.T, voters []int, want bool) {
	t.Helper()
	if got := ballot.Check(voters); got != want {
		t.Fatalf("Check(%s): %v", shown(voters), got)
	}
}

// mustWin asks who has won.
func mustWin(t *testing.T, voters, votes []int, want bool) {
	t.Helper()
	if got := ballot.Won(voters, votes); got != want {
		t.Fatalf("Won(%s, %s): %v", shown(voters), shown(votes), got)
	}
}

// mustHaveCommon asks what a majority has.
func mustHaveCommon(t *testing.T, voters, at []int, want int) {
	t.Helper()
	if got := ballot.Common(voters, at); got != want {
		t.Fatalf("Common(%s, %s): %d, want %d", shown(voters), shown(at), got, want)
	}
}

// mustBeNewer asks which log's end is newer.
func mustBeNewer(t *testing.T, aTerm, aIndex, bTerm, bIndex int, want bool) {
	t.Helper()
	if got := ballot.Newer(aTerm, aIndex, bTerm, bIndex); got != want {
		t.Fatalf("Newer(%d, %d, %d, %d): %v", aTerm, aIndex, bTerm, bIndex, got)
	}
}

// mustGrant asks whether a member votes for somebody.
func mustGrant(t *testing.T, term, vote, candTerm, cand int, newer, want bool) {
	t.Helper()
	if got := ballot.Grants(term, vote, candTerm, cand, newer); got != want {
		t.Fatalf("Grants(%d, %d, %d, %d, %v): %v", term, vote, candTerm, cand, newer, got)
	}
}

// mustTurn asks for voters with a store, or without it.
func mustTurn(t *testing.T, voters []int, store int, want ...int) []int {
	t.Helper()
	l, err := ballot.Turn(voters, store)
	if err != api.OK || !slices.Equal(l, want) {
		t.Fatalf("Turn(%s, %d): %v, %v, want %v", shown(voters), store, l, err, want)
	}
	return l
}

// mustNotTurn asks that voters are not turned, and that nothing else is told.
func mustNotTurn(t *testing.T, voters []int, store int, want api.Errno) {
	t.Helper()
	if l, err := ballot.Turn(voters, store); err != want || len(l) != 0 {
		t.Fatalf("Turn(%s, %d): %v, %v, want %v", shown(voters), store, l, err, want)
	}
}

// mustBeNear asks whether two lists are near, either way round.
func mustBeNear(t *testing.T, a, b []int, want bool) {
	t.Helper()
	if got := ballot.Near(a, b); got != want {
		t.Fatalf("Near(%s, %s): %v", shown(a), shown(b), got)
	}
	if got := ballot.Near(b, a); got != want {
		t.Fatalf("Near(%s, %s): %v", shown(b), shown(a), got)
	}
}

// mustWait asks how long a member waits.
func mustWait(t *testing.T, elect, id, want int) {
	t.Helper()
	if got := ballot.Patience(elect, id); got != want {
		t.Fatalf("Patience(%d, %d): %d, want %d", elect, id, got, want)
	}
}

// row are the numbers of a row that hangs on its beginning alone.
type row uint32

// next is a number from 0 on, below n.
func (r *row) next(n int) int {
	*r = *r*1664525 + 1013904223
	return int(*r>>8) % n
}

// one is one of a list.
func one[T any](r *row, l []T) T { return l[r.next(len(l))] }

// voters are voters that may be.
func (r *row) voters() []int { return subset(1 + r.next(1<<maxStores-1)) }

// numbers are at most so many numbers, each one of some.
func (r *row) numbers(most int, some ...int) []int {
	var l []int
	for range r.next(most + 1) {
		l = append(l, one(r, some))
	}
	return l
}

// shuffled is a list in another order, some of its numbers once more.
func (r *row) shuffled(l []int) []int {
	c := slices.Clone(l)
	for range r.next(3) {
		if len(l) > 0 {
			c = append(c, one(r, l))
		}
	}
	for i := range c {
		k := i + r.next(len(c)-i)
		c[i], c[k] = c[k], c[i]
	}
	return c
}

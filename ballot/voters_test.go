package ballot_test

import (
	"math"
	"slices"
	"testing"
)

// P15.1: all voters that may be, and each kind of those that may not.
func TestCheck(t *testing.T) {
	for _, l := range allVoters() {
		mustCheck(t, l, true)
	}
	for _, l := range wrongVoters() {
		mustCheck(t, l, false)
	}
}

// P15.1: each number by itself, and behind a good one.
func TestCheckOfEachNumber(t *testing.T) {
	for _, n := range ints() {
		mustCheck(t, list(n), n >= 1 && n <= 5)
		mustCheck(t, list(3, n), n == 4 || n == 5)
		mustCheck(t, list(n, 3), n == 1 || n == 2)
		mustCheck(t, list(1, n, 5), n >= 2 && n <= 4)
	}
}

// P15.1: all short lists of numbers about the edges: of so many, just those that were told may be.
func TestCheckOfAllShortLists(t *testing.T) {
	may := 0
	for _, l := range lists(6, 0, 1, 2, 3, 4, 5, 6) {
		want := mindCheck(l)
		mustCheck(t, l, want)
		if want {
			may++
		}
	}
	if may != 31 {
		t.Error(may)
	}
}

// P15.1: each number of votes of each number of voters.
func TestWon(t *testing.T) {
	all := list(1, 2, 3, 4, 5)
	for many, least := range []int{1, 1, 2, 2, 3, 3} {
		for votes := 0; votes <= many; votes++ {
			mustWin(t, all[:many], all[:votes], votes >= least)
			mustWin(t, all[:many], falling(all[many-votes:many]), votes >= least)
		}
	}
	mustWin(t, nil, nil, false)
	mustWin(t, nil, all, false)
	mustWin(t, []int{}, list(0), false)
	mustWin(t, list(1, 2), list(1), false) // just half
	mustWin(t, list(1, 2), list(2), false)
	mustWin(t, list(1, 2), list(1, 2), true)
	mustWin(t, list(2, 3, 4, 5), list(2, 5), false)
	mustWin(t, list(2, 3, 4, 5), list(2, 4, 5), true)
}

// P15.1: votes of stores that are no voters, votes that come twice, votes in any order.
func TestWonByStrangeVotes(t *testing.T) {
	for _, x := range []struct {
		voters, votes []int
		want          bool
	}{
		{list(1, 2, 3), list(4, 5), false},
		{list(1, 2, 3), list(1, 4, 5), false},
		{list(1, 2, 3), list(4, 1, 5, 2), true},
		{list(1), list(2, 3, 4, 5), false},
		{list(1), list(5, 4, 3, 2, 1), true},
		{list(3), list(0, -1, 6, math.MinInt, math.MaxInt), false},
		{list(3), list(0, -1, 6, 3, math.MinInt, math.MaxInt), true},
		{list(1, 2, 3), list(1, 1), false},
		{list(1, 2, 3), list(1, 1, 1, 1, 1), false},
		{list(1, 2, 3), list(3, 1, 3, 1), true},
		{list(1, 2, 3), list(3, 2, 1), true},
		{list(1, 2, 3, 4), list(4, 1), false},
		{list(1, 2, 3, 4), list(4, 4, 1, 1, 1), false},
		{list(1, 2, 3, 4), list(4, 3, 1), true},
		{list(1, 2, 3, 4, 5), list(5, 4, 5, 4), false},
		{list(1, 2, 3, 4, 5), list(5, 4, 5, 3), true},
		{list(1, 2, 3, 4, 5), list(6, 4, 7, 3, 0), false},
	} {
		mustWin(t, x.voters, x.votes, x.want)
	}
}

// P15.1: of voters that may not be each number counts once, whether it is a store or not.
func TestWonByVotersThatMayNotBe(t *testing.T) {
	for _, x := range []struct {
		voters, votes []int
		want          bool
	}{
		{list(1, 1), list(1), true},
		{list(1, 1, 2), list(1), false},
		{list(1, 1, 1, 2), list(1), false},
		{list(1, 1, 1, 2, 3), list(1), false},
		{list(1, 1, 1, 2, 3), list(1, 1, 1), false},
		{list(1, 1, 1, 2, 3), list(2, 3), true},
		{list(1, 2, 3, 3, 3), list(1, 2), true},
		{list(2, 1), list(1), false},
		{list(3, 1, 2), list(1, 2), true},
		{list(0), list(0), true},
		{list(0), nil, false},
		{list(0), list(1), false},
		{list(-1), list(-1), true},
		{list(6), list(6), true},
		{list(1, 6), list(1), false},
		{list(1, 6), list(6, 1), true},
		{list(1, 0, -1), list(1), false},
		{list(1, 0, -1), list(-1, 0), true},
		{list(1, 2, 6), list(1, 2), true},
		{list(math.MinInt, math.MaxInt, 3), list(math.MaxInt, math.MinInt), true},
		{list(math.MinInt, math.MaxInt, 3), list(math.MaxInt, 3), true},
		{list(math.MinInt, math.MaxInt, 3), list(math.MaxInt), false},
		{list(1, 2, 3, 4, 5, 6, 7), list(1, 2, 3), false},
		{list(1, 2, 3, 4, 5, 6, 7), list(1, 2, 3, 7), true},
		{list(1, 2, 3, 4, 5, 6, 7, 8), list(1, 2, 3, 4), false},
		{list(1, 2, 3, 4, 5, 6, 7, 8), list(1, 2, 3, 4, 8), true},
	} {
		mustWin(t, x.voters, x.votes, x.want)
	}
}

// P15.1: all voters with all votes, all short lists with all short lists, and drawn ones.
func TestWonAsInMind(t *testing.T) {
	r := row(1)
	for _, voters := range allVoters() {
		for bits := range 1 << maxStores {
			votes := subset(bits)
			want := mindWon(voters, votes)
			mustWin(t, voters, votes, want)
			mustWin(t, voters, r.shuffled(votes), want)
			mustWin(t, r.shuffled(voters), votes, want)
			mustWin(t, voters, append(r.shuffled(votes), 6, 0, -1), want)
		}
	}
	short := lists(3, -1, 0, 1, 2, 3, 6)
	for _, voters := range short {
		for _, votes := range short {
			mustWin(t, voters, votes, mindWon(voters, votes))
		}
	}
	for range 20000 {
		voters, votes := r.numbers(9, ints()...), r.numbers(12, ints()...)
		mustWin(t, voters, votes, mindWon(voters, votes))
	}
}

// P15.1: as many voters as may be, whose indices are as told.
func TestCommon(t *testing.T) {
	for _, x := range []struct {
		voters, at []int
		want       int
	}{
		{list(1), list(7), 7},
		{list(1), list(0), 0},
		{list(5), list(1, 2, 3, 4, 9), 9},
		{list(3), list(1, 2, 5, 4, 9), 5},
		{list(1, 2), list(9, 4), 4},
		{list(1, 2), list(4, 9), 4},
		{list(1, 2), list(4, 4), 4},
		{list(1, 2, 3), list(5, 7, 2), 5},
		{list(1, 2, 3), list(2, 5, 7), 5},
		{list(1, 2, 3), list(7, 2, 5), 5},
		{list(1, 2, 3), list(9, 9, 1), 9},
		{list(1, 2, 3), list(9, 1, 1), 1},
		{list(1, 2, 3, 4), list(1, 2, 3, 4), 2},
		{list(1, 2, 3, 4), list(4, 3, 2, 1), 2},
		{list(1, 2, 3, 4), list(9, 9, 1, 1), 1},
		{list(1, 2, 3, 4), list(9, 9, 9, 1), 9},
		{list(1, 2, 3, 4, 5), list(5, 3, 1, 2, 4), 3},
		{list(1, 2, 3, 4, 5), list(8, 8, 2, 2, 2), 2},
		{list(1, 2, 3, 4, 5), list(8, 2, 8, 2, 8), 8},
		{list(2, 4), list(9, 3, 9, 5, 9), 3},
		{list(1, 3, 5), list(1, 9, 2, 9, 3), 2},
		{list(1, 2, 3), list(math.MaxInt, math.MaxInt-1, maxCount), math.MaxInt - 1},
		{list(1, 2, 3), list(maxCount, maxCount, 0), maxCount},
	} {
		mustHaveCommon(t, x.voters, x.at, x.want)
	}
}

// P15.1: lists of indices that are shorter than the voters' stores, longer, and empty.
func TestCommonOfListsOfOtherLengths(t *testing.T) {
	for _, voters := range allVoters() {
		mustHaveCommon(t, voters, nil, 0)
		mustHaveCommon(t, voters, []int{}, 0)
	}
	for _, x := range []struct {
		voters, at []int
		want       int
	}{
		{nil, nil, 0}, {nil, list(5), 0}, {[]int{}, list(9, 9, 9), 0},
		{list(2), list(9), 0},
		{list(5), list(9, 9, 9, 9), 0},
		{list(2, 3), list(9, 4), 0},
		{list(1, 2, 3), list(9), 0},
		{list(1, 2, 3), list(9, 8), 8},
		{list(1, 2, 3, 4, 5), list(9, 8), 0},
		{list(1, 2, 3, 4, 5), list(9, 8, 7), 7},
		{list(3, 4, 5), list(9, 8, 7, 6), 6},
		{list(3, 4, 5), list(9, 8, 7), 0},
		{list(1), list(3, 9, 9), 3},
		{list(1, 2), list(3, 4, 9, 9, 9), 3},
		{list(1, 2, 3), list(3, 4, 5, 9, 9, 9, 9, 9), 4},
		{list(1, 2, 3, 4, 5), list(1, 2, 3, 4, 5, 9, 9, 9, 9, 9), 3},
	} {
		mustHaveCommon(t, x.voters, x.at, x.want)
	}
}

// P15.1: indices that are alike, below 0, and the ends of the numbers; it is never below 0.
func TestCommonOfStrangeIndices(t *testing.T) {
	for _, x := range []struct {
		voters, at []int
		want       int
	}{
		{list(1, 2, 3), list(4, 4, 4), 4},
		{list(1, 2, 3), list(4, 4, 5), 4},
		{list(1, 2, 3), list(0, 0, 0), 0},
		{list(1), list(-1), 0},
		{list(1), list(math.MinInt), 0},
		{list(1), list(math.MaxInt), math.MaxInt},
		{list(1, 2), list(-3, 5), 0},
		{list(1, 2, 3), list(-3, 5, -1), 0},
		{list(1, 2, 3), list(-3, 5, 4), 4},
		{list(1, 2, 3), list(math.MinInt, math.MaxInt, 4), 4},
		{list(1, 2, 3), list(math.MinInt, math.MaxInt, math.MinInt), 0},
		{list(1, 2, 3), list(math.MaxInt, math.MinInt, math.MaxInt), math.MaxInt},
		{list(1, 2, 3, 4, 5), list(-1, -2, -3, -4, -5), 0},
		{list(1, 2, 3, 4, 5), list(math.MinInt, math.MinInt, 1, 2, 3), 1},
	} {
		mustHaveCommon(t, x.voters, x.at, x.want)
	}
	for _, n := range ints() {
		mustHaveCommon(t, list(1), list(n), max(0, n))
		mustHaveCommon(t, list(1, 2), list(n, n), max(0, n))
		mustHaveCommon(t, list(1, 2, 3), list(n, math.MaxInt, math.MinInt), max(0, n))
	}
}

// P15.1: of voters that may not be each number counts once, here with no index for what is no
// store; those that have one are asked for below.
func TestCommonOfVotersThatMayNotBe(t *testing.T) {
	for _, x := range []struct {
		voters, at []int
		want       int
	}{
		{list(1, 1), list(4), 4},
		{list(1, 1, 2), list(9, 4), 4},
		{list(1, 1, 1, 2, 3), list(9, 4, 2), 4},
		{list(1, 2, 3, 3, 3), list(9, 4, 2), 4},
		{list(2, 1, 2, 1, 2), list(9, 4), 4},
		{list(2, 1), list(9, 4), 4},
		{list(3, 2, 1), list(5, 7, 2), 5},
		{list(2, 3, 1, 2), list(5, 7, 2), 5},
		{list(0), list(9, 9, 9, 9, 9), 0},
		{list(-1), list(9, 9, 9, 9, 9), 0},
		{list(6), list(9, 9, 9, 9, 9), 0},
		{list(math.MinInt), list(9, 9, 9, 9, 9), 0},
		{list(math.MaxInt), list(9, 9, 9, 9, 9), 0},
		{list(1, 6), list(9, 9, 9, 9, 9), 0},
		{list(0, 1), list(9, 9, 9, 9, 9), 0},
		{list(0, 1, 2), list(9, 8, 9, 9, 9), 8},
		{list(1, 2, 6), list(9, 8, 9, 9, 9), 8},
		{list(-1, 0, 1, 2), list(9, 9, 9, 9, 9), 0},
		{list(-1, 0, 1, 2, 3), list(9, 8, 7, 9, 9), 7},
		{list(math.MinInt, 1, 2, 3, math.MaxInt), list(9, 8, 7, 9, 9), 7},
		{list(1, 2, 3, 4, 5, 6), list(9, 8, 7, 6, 5), 6},
		{list(0, 0, 0, 1, 2), list(9, 8), 8},
		{list(0, 1), list(-9), 0},
	} {
		mustHaveCommon(t, x.voters, x.at, x.want)
	}
}

// P15.1: a number above MaxStores has the index in its place, if the list of indices goes on that
// far, and 0, if it stops ahead of it.
func TestCommonOfNumbersAboveMaxStores(t *testing.T) {
	for _, x := range []struct {
		voters, at []int
		want       int
	}{
		{list(6), list(0, 0, 0, 0, 0, 1), 1},
		{list(6), list(9, 9, 9, 9, 9, 4), 4},
		{list(6), list(9, 9, 9, 9, 9, 4, 9), 4},
		{list(6), list(9, 9, 9, 9, 9), 0}, // it stops just ahead of 6
		{list(6), list(9), 0},
		{list(6), nil, 0},
		{list(6), list(9, 9, 9, 9, 9, 0), 0},
		{list(6), list(9, 9, 9, 9, 9, -4), 0},
		{list(7), list(9, 9, 9, 9, 9, 9, 3), 3},
		{list(7), list(9, 9, 9, 9, 9, 9), 0},
		{list(9), list(1, 2, 3, 4, 5, 6, 7, 8, 9), 9},
		{list(9), list(1, 2, 3, 4, 5, 6, 7, 8), 0},
		{list(6, 6, 6), list(0, 0, 0, 0, 0, 2), 2},
		{list(6, 6, 7), list(0, 0, 0, 0, 0, 3, 8), 3},
		{list(7, 6), list(0, 0, 0, 0, 0, 8, 3), 3},
		{list(6, 7), list(0, 0, 0, 0, 0, 8), 0}, // 7 has none
		{list(1, 6), list(4, 0, 0, 0, 0, 9), 4},
		{list(1, 6), list(9, 0, 0, 0, 0, 4), 4},
		{list(1, 6), list(9, 9, 9, 9, 9), 0},
		{list(1, 2, 6), list(7, 8, 9, 9, 9, 9, 9), 8},
		{list(1, 2, 6), list(7, 8, 9, 9, 9), 7},
		{list(1, 6, 7), list(1, 9, 9, 9, 9, 3, 2), 2},
		{list(1, 6, 7), list(1, 9, 9, 9, 9, 3), 1},
		{list(6, 7, 8), list(9, 9, 9, 9, 9, 3, 1, 2), 2},
		{list(6, 7, 8), list(9, 9, 9, 9, 9, 3, 1), 1},
		{list(6, 7, 8), list(9, 9, 9, 9, 9, 3), 0},
		{list(1, 2, 3, 4, 5, 6), list(6, 5, 4, 3, 2, 1), 3},
		{list(1, 2, 3, 4, 5, 6), list(1, 2, 3, 4, 5, 6), 3},
		{list(1, 2, 3, 4, 5, 6), list(1, 2, 3, 4, 5), 2},
		{list(1, 2, 3, 4, 5, 6, 7), list(1, 2, 3, 4, 5, 6, 7), 4},
		{list(101, 6), list(9, 9, 9, 9, 9, 9, 9), 0},
		{list(6, maxCount, math.MaxInt), list(9, 9, 9, 9, 9, 9, 9), 0},
		{list(6, 7, math.MaxInt), list(9, 9, 9, 9, 9, 5, 6), 5},
		{list(6), list(0, 0, 0, 0, 0, math.MaxInt), math.MaxInt},
		{list(6), list(9, 9, 9, 9, 9, math.MinInt), 0},
	} {
		mustHaveCommon(t, x.voters, x.at, x.want)
	}
}

// P15.1: the same of each number by itself, beside indices of each length.
func TestCommonOfEachNumber(t *testing.T) {
	for n := -3; n <= 20; n++ {
		var at []int
		for length := 0; length <= 22; length++ {
			want := 0
			if n >= 1 && n <= length {
				want = 100 + n
			}
			mustHaveCommon(t, list(n), at, want)
			mustHaveCommon(t, list(n, n), at, want)
			at = append(at, 100+length+1)
		}
	}
	for _, n := range []int{math.MinInt, math.MinInt + 1, math.MinInt32, math.MaxInt, math.MaxInt - 1, maxCount} {
		mustHaveCommon(t, list(n), slices.Repeat(list(9), 40), 0)
	}
}

// P15.1: a number below 1 has no index, however many there are, but counts as a voter.
func TestCommonOfNumbersBelow1(t *testing.T) {
	for _, at := range [][]int{nil, list(5), list(5, 5, 5, 5, 5, 5), slices.Repeat(list(5), 40)} {
		for _, n := range []int{0, -1, -2, -5, -6, math.MinInt32, math.MinInt + 1, math.MinInt} {
			mustHaveCommon(t, list(n), at, 0)
			mustHaveCommon(t, list(n, 1), at, 0)
			mustHaveCommon(t, list(6, n), at, 0)
			mustHaveCommon(t, list(n, 6, 1), at, mindCommon(list(6, 1), at))
			mustHaveCommon(t, list(n, n, n, 6, 7), at, mindCommon(list(6, 7), at))
		}
	}
	mustHaveCommon(t, list(0, 6, 7), list(9, 9, 9, 9, 9, 5, 6), 5)
	mustHaveCommon(t, list(-1, 0, 6, 7, 8), list(9, 9, 9, 9, 9, 5, 6, 4), 4)
	mustHaveCommon(t, list(-1, 0, 6, 7, 8), list(9, 9, 9, 9, 9, 5, 6), 0)
}

// P15.1: all short lists of voters with all short lists of indices, and drawn ones.
func TestCommonAsInMind(t *testing.T) {
	for _, voters := range lists(3, -1, 0, 1, 2, 3, 6) {
		for _, at := range lists(4, -1, 0, 1, 2) {
			mustHaveCommon(t, voters, at, mindCommon(voters, at))
		}
	}
	for _, voters := range lists(3, 0, 5, 6, 7, 8) {
		for _, at := range lists(4, -1, 1, 2) {
			at = append(list(9, 9, 9, 9), at...) // the last store's index and those behind it
			mustHaveCommon(t, voters, at, mindCommon(voters, at))
		}
	}
	r := row(2)
	for range 20000 {
		at := r.numbers(5, ints()...)
		voters := r.voters()
		mustHaveCommon(t, voters, at, mindCommon(voters, at))
		mustHaveCommon(t, r.shuffled(voters), at, mindCommon(voters, at))
		voters = r.numbers(9, ints()...)
		mustHaveCommon(t, voters, at, mindCommon(voters, at))
		voters, at = r.voters(), r.numbers(9, 0, 1, 2, 3, 4, 5, 6)
		mustHaveCommon(t, voters, at, mindCommon(voters, at))
		voters, at = r.numbers(7, -1, 0, 1, 4, 5, 6, 7, 8, 9, 10), r.numbers(10, ints()...)
		mustHaveCommon(t, voters, at, mindCommon(voters, at))
	}
	for _, voters := range allVoters() {
		at := list(10, 20, 30, 40, 50)
		middle := unlike(voters)[(len(voters)-1)/2]
		mustHaveCommon(t, voters, at, 10*middle)
		slices.Reverse(at)
		mustHaveCommon(t, voters, at, mindCommon(voters, at))
	}
}

package ballot_test

import (
	"slices"

	"buttery/api"
)

// What the chapter says, as plainly as can be.

// unlike are a list's numbers, each once, rising.
func unlike(l []int) []int {
	c := slices.Clone(l)
	slices.Sort(c)
	return slices.Compact(c)
}

// mindCheck says whether voters may be: whether they are one of all those that may.
func mindCheck(voters []int) bool {
	return slices.ContainsFunc(allVoters(), func(l []int) bool { return slices.Equal(l, voters) })
}

// moreThanHalf says whether more than half of the voters are as asked.
func moreThanHalf(voters []int, asked func(v int) bool) bool {
	yes, no := 0, 0
	for _, v := range unlike(voters) {
		if asked(v) {
			yes++
		} else {
			no++
		}
	}
	return yes > no
}

// mindWon says whether a majority is among the votes.
func mindWon(voters, votes []int) bool {
	return moreThanHalf(voters, func(v int) bool { return slices.Contains(votes, v) })
}

// mindIndex is a voter's index: at[i] is that of the voter i + 1, and 0, if there is none.
func mindIndex(voter int, at []int) int {
	for i, index := range at {
		if i+1 == voter {
			return index
		}
	}
	return 0
}

// haveAsMuch says whether a majority has an index.
func haveAsMuch(voters, at []int, i int) bool {
	return moreThanHalf(voters, func(v int) bool { return mindIndex(v, at) >= i })
}

// mindCommon is the greatest index that a majority has; only the indices that somebody has can be.
func mindCommon(voters, at []int) int {
	most := 0
	for _, i := range at {
		if i > most && haveAsMuch(voters, at, i) {
			most = i
		}
	}
	return most
}

// mindGrants says whether a member votes for somebody.
func mindGrants(term, vote, candTerm, cand int, newer bool) bool {
	switch {
	case cand <= 0, !newer, candTerm < term:
		return false
	case candTerm > term:
		return true
	}
	return vote == 0 || vote == cand
}

// mindTurn are the voters with a store, or without it.
func mindTurn(voters []int, store int) ([]int, api.Errno) {
	if !mindCheck(voters) || store < 1 || store > maxStores {
		return nil, api.ErrArg
	}
	var l []int
	for n := 1; n <= maxStores; n++ {
		if slices.Contains(voters, n) != (n == store) {
			l = append(l, n)
		}
	}
	if len(l) == 0 {
		return nil, api.ErrState
	}
	return l, api.OK
}

// mindNear says whether of all numbers of two lists at most one is in one of them alone.
func mindNear(a, b []int) bool {
	alone := 0
	for _, n := range unlike(append(slices.Clone(a), b...)) {
		if slices.Contains(a, n) != slices.Contains(b, n) {
			alone++
		}
	}
	return alone <= 1
}

package ballot_test

import (
	"slices"
	"testing"

	"buttery/api"
	"buttery/ballot"
)

// majorities are all lists of stores by which voters have won, also those of strangers.
func majorities(voters []int) [][]int {
	var all [][]int
	for bits := range 1 << maxStores {
		if votes := subset(bits); ballot.Won(voters, votes) {
			all = append(all, votes)
		}
	}
	return all
}

// meet says whether two majorities have a member in common: of the one and of the other voters.
func meet(a, b, one, other []int) bool {
	return slices.ContainsFunc(one, func(n int) bool {
		return slices.Contains(other, n) && slices.Contains(a, n) && slices.Contains(b, n)
	})
}

// P15.4: of all pairs of voters that are Near any two majorities have a member in common.
func TestMajoritiesMeet(t *testing.T) {
	pairs, least := 0, 1<<maxStores
	for _, a := range allVoters() {
		for _, b := range allVoters() {
			if !ballot.Near(a, b) {
				continue
			}
			pairs++
			one, other := majorities(a), majorities(b)
			least = min(least, len(one), len(other))
			for _, x := range one {
				for _, y := range other {
					if !meet(a, b, x, y) {
						t.Fatalf("%v of %v and %v of %v have no member in common", x, a, y, b)
					}
				}
			}
		}
	}
	if pairs != 31+2*(5*16-5) || least != 8 { // the same; one more or less, but nobody
		t.Error(pairs, least)
	}
}

// P15.4: voters that change by one at a time stay such that majorities meet from step to step.
func TestMajoritiesMeetFromStepToStep(t *testing.T) {
	r := row(4)
	for range 300 {
		voters := r.voters()
		for range 20 {
			next, err := ballot.Turn(voters, 1+r.next(maxStores))
			if err != api.OK {
				continue
			}
			if !ballot.Near(voters, next) || !ballot.Check(next) {
				t.Fatal(voters, next)
			}
			one, other := majorities(voters), majorities(next)
			if !meet(voters, next, one[r.next(len(one))], other[r.next(len(other))]) {
				t.Fatal(voters, next)
			}
			voters = next
		}
	}
}

// member is one that keeps its term and the vote that it granted in it.
type member struct {
	term, vote int
	granted    map[int]int // by terms, whom it voted for
}

// asked lets a candidate ask a member, and says whether it votes for it.
func (m *member) asked(t *testing.T, candTerm, cand int, newer bool) bool {
	t.Helper()
	if !ballot.Grants(m.term, m.vote, candTerm, cand, newer) {
		return false
	}
	if candTerm < m.term {
		t.Fatalf("a vote in the term %d, in the term %d", candTerm, m.term)
	}
	m.term, m.vote = candTerm, cand
	if was, ok := m.granted[candTerm]; ok && was != cand {
		t.Fatalf("in the term %d votes for %d and for %d", candTerm, was, cand)
	}
	m.granted[candTerm] = cand
	return true
}

// P15.5: drawn candidates ask a member, which hears of other terms between: in each term it votes
// for one only, for that one however often it asks.
func TestOneVote(t *testing.T) {
	r := row(5)
	for range 2000 {
		m := member{granted: map[int]int{}}
		granted := 0
		for range 60 {
			if r.next(8) == 0 {
				m.term, m.vote = m.term+1, 0
			}
			candTerm, cand, newer := max(0, m.term+r.next(4)-2), 1+r.next(maxStores), r.next(4) > 0
			if !m.asked(t, candTerm, cand, newer) {
				continue
			}
			granted++
			if !m.asked(t, candTerm, cand, true) {
				t.Fatalf("the vote for %d in the term %d is not granted again", cand, candTerm)
			}
		}
		if granted < 5 {
			t.Fatal("so few votes:", granted)
		}
	}
}

// P15.5: all rows of three candidates, whatever the member kept of before.
func TestOneVoteOfAllShortRows(t *testing.T) {
	type ask struct {
		term, cand int
		newer      bool
	}
	var asks []ask
	for term := range 4 {
		for cand := range 4 {
			asks = append(asks, ask{term, cand, false}, ask{term, cand, true})
		}
	}
	for _, x := range asks {
		for _, y := range asks {
			for _, z := range asks {
				for vote := range 3 {
					m := member{term: 1, vote: vote, granted: map[int]int{}}
					if vote > 0 {
						m.granted[1] = vote
					}
					for _, a := range []ask{x, y, z} {
						if m.asked(t, a.term, a.cand, a.newer) && (a.cand == 0 || !a.newer) {
							t.Fatal("a vote for", a)
						}
					}
				}
			}
		}
	}
}

// P15.6: what is Common is had by a majority, and no greater index is; by a majority as Won has it.
func TestCommonIsHad(t *testing.T) {
	r := row(6)
	for range 20000 {
		voters, at := r.voters(), r.numbers(9, 0, 1, 2, 3, 4, 7, 8, 9, 100, maxCount)
		if r.next(2) == 0 { // those that may not be, too
			voters = r.numbers(6, 0, 1, 4, 5, 6, 7, 8, 9)
		}
		if len(voters) == 0 {
			continue
		}
		have := func(i int) []int { // the numbers that have an index
			var l []int
			for n := range 10 {
				if mindIndex(n, at) >= i {
					l = append(l, n)
				}
			}
			return l
		}
		common := ballot.Common(voters, at)
		if !haveAsMuch(voters, at, common) || !ballot.Won(voters, have(common)) {
			t.Fatalf("Common(%v, %v): %d, which no majority has", voters, at, common)
		}
		for _, i := range append(at, common+1) {
			if i > common && (haveAsMuch(voters, at, i) || ballot.Won(voters, have(i))) {
				t.Fatalf("Common(%v, %v): %d, though a majority has %d", voters, at, common, i)
			}
		}
	}
}

// P15.6: what more members have by and by is agreed upon by and by, and never taken back.
func TestCommonRises(t *testing.T) {
	r := row(7)
	for range 1000 {
		voters, at, was := r.voters(), make([]int, maxStores), 0
		for range 50 {
			at[r.next(maxStores)] += r.next(4)
			common := ballot.Common(voters, at)
			if common < was {
				t.Fatalf("Common(%v, %v): %d, behind %d", voters, at, common, was)
			}
			was = common
		}
		mustHaveCommon(t, voters, at, mindCommon(voters, at))
	}
}

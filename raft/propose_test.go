package raft_test

import (
	"fmt"
	"slices"
	"testing"

	"buttery/api"
	"buttery/raft"
)

// P16.2: an entry of each kind stands behind the last, in the leader's Term, and goes to all.
func TestPropose(t *testing.T) {
	g := leading(t, begin(2, 3))
	g.Step(1, told(1, true, 1))
	forget(g)
	l := []api.Entry{noop(1)}
	for i, e := range []api.Entry{noop(1), change(1, ""), change(1, "x"), change(1, string(make([]byte, maxEntry))), members(1, 1, 2)} {
		l = append(l, e)
		mustPropose(t, g, e, i+2)
		mustSend(t, g, mail(2, 1, laid(1, 1, 1, 1, l[1:]...)), mail(2, 3, laid(1, 0, 0, 1, l...)))
		mustHaveChanged(t, g, raft.Change{From: i + 2})
		mustLog(t, g, l...)
		mustView(t, g, raft.View{Role: leader, Term: 1, Vote: 2, Leader: 2, Commit: 1, Last: i + 2})
	}
	mustVoters(t, g, 1, 2)
}

// P16.2: in a group of one what is proposed is agreed upon at once.
func TestProposeAlone(t *testing.T) {
	g := leading(t, begin(1, 1))
	for i := 2; i < 20; i++ {
		mustPropose(t, g, change(0, fmt.Sprint(i)), i)
		mustSend(t, g)
		mustHaveChanged(t, g, raft.Change{From: i})
		mustView(t, g, raft.View{Role: leader, Term: 1, Vote: 1, Leader: 1, Commit: i, Last: i})
	}
}

// wrongEntries are entries that may not be, in a group of three stores.
func wrongEntries() []api.Entry {
	return []api.Entry{
		{}, {Kind: 4}, {Kind: 255}, {Kind: 1, Data: "x"}, {Kind: 1, List: list(1)}, {Kind: 2, List: list(1, 2)},
		{Kind: 2, Data: string(make([]byte, maxEntry+1))}, {Kind: 3}, {Kind: 3, Data: "x", List: list(1, 2)},
		members(1, 0), members(1, 2, 1), members(1, 1, 1), members(1, -1, 2), members(1, 6), members(1, 1, 2, 6),
		members(1, 4), members(1, 5), members(1, 1, 2, 3, 4), members(1, 1, 2, 5),
		members(1, upTo(6)...), badEntry(),
	}
}

// P16.2: who does not lead proposes nothing, whatever it is.
func TestProposeOfThoseWhoDoNotLead(t *testing.T) {
	for _, g := range []*raft.Member{mustNew(t, begin(2, 3)), standing(t, begin(2, 3)), logged(t)} {
		for _, e := range append(wrongEntries(), noop(1), change(1, "x"), members(1, 1, 2)) {
			mustNotPropose(t, g, e, api.ErrLeader)
		}
	}
}

// P16.2: what may not be is refused, also where a Members entry would have to wait, and where
// there is no room.
func TestProposeRefuses(t *testing.T) {
	busy := leading(t, begin(2, 3))
	free := leading(t, begin(2, 3))
	free.Step(1, told(1, true, 1))
	forget(free)
	full := leading(t, grown(2, 3, 0, maxCount-1, 0))
	for _, g := range []*raft.Member{busy, free, full} {
		for _, e := range wrongEntries() {
			mustNotPropose(t, g, e, api.ErrArg)
		}
	}
}

// P16.2: a Members entry is to differ from the voters in one number; all lists, with all voters.
func TestProposeMembers(t *testing.T) {
	for had := 1; had < 32; had++ {
		s := grown(1, 5, 3, 4, 2)
		s.Voters = subset(had|1, 5) // who leads votes
		g := leading(t, s)
		for from := 2; from <= 5; from++ {
			g.Step(from, told(4, true, 5))
		}
		forget(g)
		for to := range 32 {
			l := subset(to, 5)
			c := g.Copy()
			switch many := alone(s.Voters, l); {
			case len(l) == 0 || many != 1:
				mustNotPropose(t, c, members(1, l...), api.ErrArg)
			default:
				mustPropose(t, c, members(1, l...), 6)
				mustVoters(t, c, l...)
				mustHaveChanged(t, c, raft.Change{From: 6})
			}
			mustVoters(t, g, s.Voters...)
		}
	}
}

// P16.2: it waits while the entry at Commit is of an elder term, and while another one is above
// Commit; that is asked ahead of how many differ.
func TestProposeMembersWaits(t *testing.T) {
	g := leading(t, grown(1, 3, 4, 6, 2, noops(3, 4)...))
	lists := [][]int{{1, 2}, {1, 2, 3}, {1}, {2}} // 1, none, 2 and 2 that differ
	all := func(want api.Errno) {
		t.Helper()
		for _, l := range lists {
			mustNotPropose(t, g, members(1, l...), want)
		}
	}
	all(api.ErrBusy) // at the base
	mustPropose(t, g, change(1, "x"), 10)
	g.Step(2, told(5, true, 8))
	all(api.ErrBusy) // 2 and it have just entries of elder terms
	g.Step(2, told(5, true, 9))
	forget(g)
	for _, l := range lists[1:] {
		mustNotPropose(t, g, members(1, l...), api.ErrArg)
	}
	mustPropose(t, g, members(1, 1, 2), 11)
	lists = [][]int{{1, 2, 3}, {1, 2}, {1}, {3}, {2, 3}}
	all(api.ErrBusy)
	mustPropose(t, g, change(1, "y"), 12) // other entries do not wait
	g.Step(3, told(5, true, 12))          // 3 does not vote any more
	g.Step(2, told(5, true, 10))
	all(api.ErrBusy)
	g.Step(2, told(5, true, 11))
	mustView(t, g, raft.View{Role: leader, Term: 5, Vote: 1, Leader: 1, Commit: 11, Base: 6, Last: 12})
	mustPropose(t, g, members(1, 1), 13)
	mustView(t, g, raft.View{Role: leader, Term: 5, Vote: 1, Leader: 1, Commit: 13, Base: 6, Last: 13})
	mustPropose(t, g, members(1, 1, 3), 14)
	all(api.ErrBusy)
}

// P16.2: behind an elder leader's Members entry above Commit it waits, till that is agreed upon.
func TestProposeMembersWaitsForElderOnes(t *testing.T) {
	g := leading(t, grown(1, 3, 4, 6, 2, members(3, 1, 2)))
	mustNotPropose(t, g, members(1, 1), api.ErrBusy)
	g.Step(2, told(5, true, 7))
	mustNotPropose(t, g, members(1, 1), api.ErrBusy)
	g.Step(2, told(5, true, 8))
	mustPropose(t, g, members(1, 1), 9)
}

// P16.2: where all that was agreed upon is forgotten, the base's term is asked.
func TestProposeMembersBehindTheBase(t *testing.T) {
	g := leading(t, begin(1, 3))
	g.Step(2, told(1, true, 1))
	mustCompact(t, g, 1, "all", api.OK)
	mustPropose(t, g, members(1, 1, 2), 2)
}

// P16.2: where there is no room, nothing is appended, and nothing but that is asked last.
func TestProposeWithoutRoom(t *testing.T) {
	g := leading(t, grown(1, 3, 4, maxCount-2, 2))
	g.Step(2, told(5, true, maxCount-1))
	forget(g)
	mustPropose(t, g, change(0, "x"), maxCount)
	forget(g)
	mustNotPropose(t, g, change(0, "x"), api.ErrExhausted)
	mustNotPropose(t, g, noop(0), api.ErrExhausted)
	mustNotPropose(t, g, members(1, 1, 2), api.ErrExhausted)
	mustNotPropose(t, g, members(1, 1), api.ErrArg)
	mustNotPropose(t, g, members(1, 4), api.ErrArg)
	busy := leading(t, grown(1, 3, 4, maxCount-1, 2))
	mustNotPropose(t, busy, members(1, 1, 2), api.ErrBusy)
	ticks(g, 2)
	mustSend(t, g, mail(1, 2, laid(5, maxCount-1, 5, maxCount-1, change(5, "x"))), mail(1, 3, laid(5, maxCount-2, 2, maxCount-1, noop(5), change(5, "x"))))
	g.Step(3, told(5, true, maxCount)) // next is above all indices
	mustSend(t, g)
	ticks(g, 2)
	mustSend(t, g, mail(1, 2, laid(5, maxCount-1, 5, maxCount, change(5, "x"))), mail(1, 3, laid(5, maxCount, 5, maxCount)))
	g.Step(3, told(5, false, maxCount))
	mustSend(t, g, mail(1, 3, laid(5, maxCount, 5, maxCount)))
}

// P16.2: Compact refuses what is below the base or above Commit; what is left stays.
func TestCompact(t *testing.T) {
	for _, n := range ints() {
		if n < 10 || n > 12 {
			mustCompact(t, logged(t), n, "x", api.ErrArg)
		}
	}
	for i, want := range [][]api.Entry{noops(1, 2, 2, 4), noops(2, 2, 4), noops(2, 4)} {
		g := logged(t)
		mustCompact(t, g, 10+i, "now", api.OK)
		mustHaveChanged(t, g, raft.Change{Base: true})
		mustLog(t, g, want...)
		mustRest(t, g, 10+i, []int{1, 1, 2}[i], upTo(3), "now")
		mustView(t, g, raft.View{Role: follower, Term: 5, Commit: 12, Base: 10 + i, Last: 14})
		mustSend(t, g)
		for k := 9; k < 10+i; k++ {
			mustCompact(t, g, k, "again", api.ErrArg)
		}
		mustCompact(t, g, 13, "again", api.ErrArg)
		mustCompact(t, g, 12, "again", api.OK)
		mustRest(t, g, 12, 2, upTo(3), "again")
		mustLog(t, g, noops(2, 4)...)
	}
}

// P16.2: the base's voters are those of the last Members entry up to i, or what they were.
func TestCompactVoters(t *testing.T) {
	l := []api.Entry{noop(1), members(1, 1, 2), noop(1), members(2, 3), members(2, 2), noop(2)}
	for i, want := range [][]int{{1, 2, 3}, {1, 2, 3}, {1, 2}, {1, 2}, {3}, {2}, {2}} {
		g := mustNew(t, grown(1, 3, 3, 6, 1, l...))
		g.Step(2, laid(3, 12, 2, 12))
		forget(g)
		mustCompact(t, g, 6+i, "now", api.OK)
		base, _, voters, _ := g.Snapshot()
		if base != 6+i || !slices.Equal(voters, want) {
			t.Errorf("Compact(%d): %d %v, want %v", 6+i, base, voters, want)
		}
		mustVoters(t, g, 2)
		mustCompact(t, g, 12, "all", api.OK)
		mustRest(t, g, 12, 2, list(2), "all")
		mustVoters(t, g, 2)
	}
}

// P16.2: whoever compacts goes on as it was.
func TestCompactOfAll(t *testing.T) {
	c := standing(t, grown(1, 3, 4, 6, 2, noops(3)...))
	mustCompact(t, c, 6, "same", api.OK)
	c.Step(2, voted(5, true))
	mustView(t, c, raft.View{Role: leader, Term: 5, Vote: 1, Leader: 1, Commit: 6, Base: 6, Last: 8})
	c.Step(2, told(5, true, 8))
	mustCompact(t, c, 7, "more", api.OK)
	mustView(t, c, raft.View{Role: leader, Term: 5, Vote: 1, Leader: 1, Commit: 8, Base: 7, Last: 8})
	mustCompact(t, c, 8, "", api.OK)
	mustView(t, c, raft.View{Role: leader, Term: 5, Vote: 1, Leader: 1, Commit: 8, Base: 8, Last: 8})
	mustRest(t, c, 8, 5, upTo(3), "")
	mustLog(t, c)
	mustPropose(t, c, change(0, "x"), 9)
	ticks(c, 8)
	mustView(t, c, raft.View{Role: leader, Term: 5, Vote: 1, Leader: 1, Commit: 8, Base: 8, Last: 9})
}

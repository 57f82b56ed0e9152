package raft_test

import (
	"testing"

	"buttery/api"
	"buttery/raft"
)

// led is the leader 1 of five stores, of which 1 to 4 vote, in the term 5: its base is 10, of the
// term 1; its entries at 11 to 14 are of the terms 2, 2, 4, 5; its Commit is 10.
func led(t *testing.T) *raft.Member {
	t.Helper()
	s := grown(1, 5, 4, 10, 1, noops(2, 2, 4)...)
	s.Voters = upTo(4)
	g := leading(t, s)
	mustView(t, g, raft.View{Role: leader, Term: 5, Vote: 1, Leader: 1, Commit: 10, Base: 10, Last: 14})
	return g
}

// P16.1: AppendTell, granted: Commit is the greatest index of its Term that more than half of the
// voters have.
func TestAgree(t *testing.T) {
	type tell struct{ from, index int }
	for _, x := range []struct {
		tells  []tell
		commit int
	}{
		{[]tell{{2, 14}}, 10}, // half of them
		{[]tell{{2, 14}, {3, 14}}, 14},
		{[]tell{{2, 14}, {3, 13}}, 10}, // of an elder term
		{[]tell{{2, 13}, {3, 13}, {4, 13}}, 10},
		{[]tell{{2, 14}, {5, 14}}, 10}, // 5 does not vote
		{[]tell{{5, 14}, {4, 14}, {3, 14}}, 14},
		{[]tell{{2, 99}, {3, maxCount}}, 14}, // above its last
		{[]tell{{2, 14}, {2, 14}, {2, 99}}, 10},
		{[]tell{{2, 14}, {2, 3}, {3, 14}}, 14}, // match does not fall
		{[]tell{{2, 0}, {3, 0}, {4, 0}}, 10},
		{[]tell{{1, 14}, {2, 14}}, 10}, // from itself
	} {
		g := led(t)
		for _, y := range x.tells {
			g.Step(y.from, told(5, true, y.index))
		}
		if v := g.View(); v.Commit != x.commit || v.Role != leader {
			t.Errorf("%v: %+v", x.tells, v)
		}
		mustHaveChanged(t, g, raft.Change{})
	}
}

// P16.1: of several entries of its Term the greatest that more than half have.
func TestAgreeOnTheGreatest(t *testing.T) {
	g := led(t)
	for i := 15; i <= 18; i++ {
		mustPropose(t, g, change(0, "x"), i)
	}
	for _, x := range []struct{ from, index, commit int }{
		{4, 15, 10}, {3, 13, 10}, {3, 16, 15}, {2, 17, 16}, {2, 15, 16}, {3, 18, 17}, {5, 18, 17}, {4, 14, 17}, {4, 18, 18},
	} {
		g.Step(x.from, told(5, true, x.index))
		if v := g.View(); v.Commit != x.commit {
			t.Errorf("%+v: %+v", x, v)
		}
	}
}

// P16.1: AppendTell, granted: next is behind match; what is behind that is sent, at most 8
// entries, if there is some.
func TestSendOn(t *testing.T) {
	g := led(t)
	var all []api.Entry
	for i := 15; i <= 25; i++ {
		mustPropose(t, g, change(0, "x"), i)
		all = append(all, change(5, "x"))
	}
	forget(g)
	g.Step(2, told(5, true, 13)) // next was 14: it is not more
	mustSend(t, g, mail(1, 2, laid(5, 13, 4, 10, append(noops(5), all[:7]...)...)))
	g.Step(2, told(5, true, 14))
	mustSend(t, g, mail(1, 2, laid(5, 14, 5, 10, all[:8]...)))
	g.Step(2, told(5, true, 12)) // match does not fall, nor next
	mustSend(t, g, mail(1, 2, laid(5, 14, 5, 10, all[:8]...)))
	g.Step(3, told(5, true, 22)) // agreed ahead of what is sent
	mustSend(t, g, mail(1, 3, laid(5, 22, 5, 14, all[8:]...)))
	g.Step(2, told(5, true, 24))
	mustSend(t, g, mail(1, 2, laid(5, 24, 5, 22, all[10])))
	g.Step(2, told(5, true, 25)) // next is above the last
	mustSend(t, g)
	g.Step(2, told(5, true, 99))
	mustSend(t, g)
	ticks(g, 2)
	mustSend(t, g,
		mail(1, 2, laid(5, 25, 5, 22)), mail(1, 3, laid(5, 22, 5, 22, all[8:]...)),
		mail(1, 4, laid(5, 13, 4, 22, append(noops(5), all[:7]...)...)), mail(1, 5, laid(5, 13, 4, 22, append(noops(5), all[:7]...)...)))
}

// P16.1: AppendTell, not granted: next is the lesser of next less 1 and Index and 1, but more than
// match; where it is not above the base, the base is sent.
func TestSendBack(t *testing.T) {
	entries := noops(2, 2, 4, 5)
	terms := []int{1, 2, 2, 4, 5}
	base := rested(5, 10, 1, "then", 1, 2, 3, 4)
	from := func(next int) api.Msg { return laid(5, next-1, terms[next-11], 10, entries[next-11:]...) }
	type tell struct {
		granted bool
		index   int
	}
	yes, no := func(i int) tell { return tell{true, i} }, func(i int) tell { return tell{false, i} }
	for _, x := range []struct {
		tells []tell
		last  api.Msg
	}{
		{[]tell{no(13)}, from(13)}, // next was 14
		{[]tell{no(99)}, from(13)},
		{[]tell{no(12)}, from(13)},
		{[]tell{no(11)}, from(12)},
		{[]tell{no(10)}, from(11)},
		{[]tell{no(9)}, base},
		{[]tell{no(0)}, base},
		{[]tell{no(99), no(99)}, from(12)},
		{[]tell{no(99), no(99), no(99)}, from(11)},
		{[]tell{no(99), no(99), no(99), no(99)}, base},
		{[]tell{no(0), no(99)}, base},
		{[]tell{no(0), no(0), no(0)}, base},
		{[]tell{no(0), yes(10)}, from(11)}, // behind the base
		{[]tell{no(0), yes(9)}, base},      // match is 9: next is 10 at least, and not above the base
		{[]tell{yes(12), no(0)}, from(13)}, // more than match
		{[]tell{yes(12), no(12), no(99)}, from(13)},
		{[]tell{yes(11), no(12)}, from(13)},
		{[]tell{yes(11), no(11)}, from(12)},
		{[]tell{yes(11), no(9)}, from(12)},
		{[]tell{yes(14), no(0)}, laid(5, 14, 5, 10)},
		{[]tell{yes(13), no(99)}, from(14)},
	} {
		g := led(t)
		for _, y := range x.tells {
			forget(g)
			g.Step(4, told(5, y.granted, y.index))
		}
		mustSend(t, g, mail(1, 4, x.last))
		mustHaveChanged(t, g, raft.Change{})
	}
}

// P16.1: AppendTell of another term: an elder one is passed by, a later one makes a Follower; nor
// does it come to anybody but leaders.
func TestAppendTellOfOthers(t *testing.T) {
	g := led(t)
	was := look(g)
	for term := 1; term <= 4; term++ {
		for _, granted := range []bool{true, false} {
			g.Step(2, told(term, granted, 14))
			g.Step(3, told(term, granted, 14))
			g.Step(3, told(term, granted, 0))
		}
	}
	mustBeAs(t, "behind elder terms", g, was)
	g.Step(2, told(6, true, 14))
	mustView(t, g, raft.View{Role: follower, Term: 6, Commit: 10, Base: 10, Last: 14})
	mustHaveChanged(t, g, raft.Change{Hard: true})
	mustSend(t, g)
	for _, g := range []*raft.Member{g, standing(t, grown(1, 3, 5, 10, 1, noops(2)...))} {
		was := look(g)
		for _, granted := range []bool{true, false} {
			g.Step(2, told(6, granted, 11))
			g.Step(3, told(6, granted, 0))
		}
		mustBeAs(t, "no leader", g, was)
	}
}

// P16.1: each store has a next and a match of its own, and begins anew with each leader.
func TestNextAndMatchAreOfEachLeader(t *testing.T) {
	g := led(t)
	g.Step(2, told(5, false, 0))
	g.Step(3, told(5, true, 14))
	forget(g)
	ticks(g, 2)
	e := noops(2, 2, 4, 5)
	mustSend(t, g, mail(1, 2, rested(5, 10, 1, "then", 1, 2, 3, 4)), mail(1, 3, laid(5, 14, 5, 10)),
		mail(1, 4, laid(5, 13, 4, 10, e[3:]...)), mail(1, 5, laid(5, 13, 4, 10, e[3:]...)))
	g.Step(2, asked(6, 99, 6)) // it loses, and leads again
	ticks(g, 8)
	forget(g)
	g.Step(2, voted(7, true))
	g.Step(4, voted(7, true))
	x := laid(7, 14, 5, 10, noop(7))
	mustSend(t, g, mail(1, 2, x), mail(1, 3, x), mail(1, 4, x), mail(1, 5, x))
	g.Step(2, told(7, true, 15)) // 3 said so in another term: it must say so again
	if v := g.View(); v.Commit != 10 {
		t.Errorf("%+v", v)
	}
	g.Step(3, told(7, true, 15))
	if v := g.View(); v.Commit != 15 {
		t.Errorf("%+v", v)
	}
}

// P16.1: of a leader whose base went on, those behind it are sent the base.
func TestSendTheBase(t *testing.T) {
	g := led(t)
	g.Step(2, told(5, true, 14))
	g.Step(3, told(5, true, 14))
	mustCompact(t, g, 13, "done", api.OK)
	forget(g)
	ticks(g, 2)
	mustSend(t, g, mail(1, 2, laid(5, 14, 5, 14)), mail(1, 3, laid(5, 14, 5, 14)),
		mail(1, 4, laid(5, 13, 4, 14, noop(5))), mail(1, 5, laid(5, 13, 4, 14, noop(5)))) // next is just above the base
	mustCompact(t, g, 14, "all", api.OK)
	forget(g)
	ticks(g, 2)
	x := rested(5, 14, 5, "all", 1, 2, 3, 4)
	mustSend(t, g, mail(1, 2, laid(5, 14, 5, 14)), mail(1, 3, laid(5, 14, 5, 14)), mail(1, 4, x), mail(1, 5, x))
	g.Step(4, told(5, true, 3)) // its match is 3: it needs the base still
	mustSend(t, g, mail(1, 4, x))
	g.Step(4, told(5, false, 13))
	mustSend(t, g, mail(1, 4, x))
	g.Step(4, told(5, true, 14))
	mustSend(t, g)
	mustPropose(t, g, change(0, "x"), 15)
	y := laid(5, 14, 5, 14, change(5, "x"))
	mustSend(t, g, mail(1, 2, y), mail(1, 3, y), mail(1, 4, y), mail(1, 5, x))
}

// P16.1: a leader that is no longer among the voters leads until that is agreed upon, and does not
// count itself.
func TestLeaderThatLeaves(t *testing.T) {
	g := led(t)
	g.Step(2, told(5, true, 14))
	g.Step(3, told(5, true, 14))
	mustPropose(t, g, members(0, 2, 3, 4), 15)
	forget(g)
	mustVoters(t, g, 2, 3, 4)
	mustPropose(t, g, change(0, "x"), 16)
	ticks(g, 100)
	forget(g)
	g.Step(2, told(5, true, 16))
	mustView(t, g, raft.View{Role: leader, Term: 5, Vote: 1, Leader: 1, Commit: 14, Base: 10, Last: 16})
	mustSend(t, g)
	g.Step(4, told(5, true, 15)) // there is more for 4, but it leads no more
	mustView(t, g, raft.View{Role: follower, Term: 5, Vote: 1, Commit: 15, Base: 10, Last: 16})
	mustSend(t, g)
	mustHaveChanged(t, g, raft.Change{})
	mustNotPropose(t, g, change(0, "y"), api.ErrLeader)
	ticks(g, 100)
	mustView(t, g, raft.View{Role: follower, Term: 5, Vote: 1, Commit: 15, Base: 10, Last: 16})
	mustSend(t, g)
	g.Step(4, told(5, true, 16))
	mustView(t, g, raft.View{Role: follower, Term: 5, Vote: 1, Commit: 15, Base: 10, Last: 16})
}

// P16.1: a voter that is asked in counts from the moment that it stands in the log.
func TestVoterThatComes(t *testing.T) {
	s := begin(1, 2)
	s.Voters = list(1)
	g := leading(t, s)
	mustView(t, g, raft.View{Role: leader, Term: 1, Vote: 1, Leader: 1, Commit: 1, Last: 1})
	mustPropose(t, g, members(0, 1, 2), 2)
	mustView(t, g, raft.View{Role: leader, Term: 1, Vote: 1, Leader: 1, Commit: 1, Last: 2})
	g.Step(2, told(1, true, 1))
	mustView(t, g, raft.View{Role: leader, Term: 1, Vote: 1, Leader: 1, Commit: 1, Last: 2})
	g.Step(2, told(1, true, 2))
	mustView(t, g, raft.View{Role: leader, Term: 1, Vote: 1, Leader: 1, Commit: 2, Last: 2})
	mustPropose(t, g, members(0, 1), 3) // it alone has it
	mustView(t, g, raft.View{Role: leader, Term: 1, Vote: 1, Leader: 1, Commit: 3, Last: 3})
}

// P16.1: a leader that does not vote, by an entry above Commit, leads on in its term.
func TestLeaderByOthersVotes(t *testing.T) {
	g := mustNew(t, grown(3, 3, 4, 0, 0, members(2, 1, 2)))
	ticks(g, 10)
	g.Step(1, voted(5, true))
	g.Step(2, voted(5, true))
	forget(g)
	mustView(t, g, raft.View{Role: leader, Term: 5, Vote: 3, Leader: 3, Last: 2})
	g.Step(1, told(5, true, 2))
	mustView(t, g, raft.View{Role: leader, Term: 5, Vote: 3, Leader: 3, Last: 2})
	g.Step(2, told(5, true, 1))
	mustView(t, g, raft.View{Role: leader, Term: 5, Vote: 3, Leader: 3, Last: 2}) // of an elder term
	g.Step(2, told(5, true, 2))
	mustView(t, g, raft.View{Role: follower, Term: 5, Vote: 3, Commit: 2, Last: 2})
}

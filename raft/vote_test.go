package raft_test

import (
	"testing"

	"buttery/api"
	"buttery/raft"
)

// P16.1: VoteAsk is granted, if the Terms are alike and Vote is 0 or From, and answered with the
// member's own Term.
func TestVoteAskByVote(t *testing.T) {
	for _, x := range []struct {
		vote, term int
		grants     bool
	}{
		{0, 4, true}, {1, 4, true}, {2, 4, false}, {3, 4, false}, {4, 4, false},
		{0, 3, false}, {1, 3, false}, {3, 3, false},
		{0, 5, true}, {1, 5, true}, {3, 5, true}, {2, 5, true}, {3, maxCount, true},
	} {
		s := grown(2, 4, 4, 6, 2, noop(3))
		s.Vote = x.vote
		g := mustNew(t, s)
		ticks(g, 8)
		g.Step(1, asked(x.term, 7, 3))
		term, vote := max(4, x.term), x.vote
		if x.grants {
			vote = 1
		}
		mustSend(t, g, mail(2, 1, voted(term, x.grants)))
		mustView(t, g, raft.View{Role: follower, Term: term, Vote: vote, Commit: 6, Base: 6, Last: 7})
		mustHaveChanged(t, g, raft.Change{Hard: x.grants})
		g.Tick()
		if stands := g.View().Role == candidate; stands == x.grants { // a vote that is granted lets it wait anew
			t.Errorf("%+v: a tick later: %+v", x, g.View())
		}
		if x.grants {
			ticks(g, 7)
			mustView(t, g, raft.View{Role: follower, Term: term, Vote: 1, Commit: 6, Base: 6, Last: 7})
		}
	}
}

// P16.1: VoteAsk is granted to logs that are as new or newer, by the last's term ahead of its index.
func TestVoteAskByLog(t *testing.T) {
	for _, x := range []struct {
		index, term int
		grants      bool
	}{
		{7, 3, true}, {8, 3, true}, {maxCount, 3, true}, {6, 3, false}, {0, 3, false},
		{7, 4, true}, {0, 4, true}, {0, 9, true}, {maxCount, 9, true},
		{7, 2, false}, {8, 2, false}, {maxCount, 2, false}, {maxCount, 0, false}, {0, 0, false},
	} {
		for _, term := range []int{9, 10, maxCount} {
			g := mustNew(t, grown(2, 3, 9, 5, 1, noops(2, 3)...))
			g.Step(3, asked(term, x.index, x.term))
			vote := 3 * count(x.grants)
			mustSend(t, g, mail(2, 3, voted(term, x.grants)))
			mustView(t, g, raft.View{Role: follower, Term: term, Vote: vote, Commit: 5, Base: 5, Last: 7})
			mustHaveChanged(t, g, raft.Change{Hard: x.grants || term > 9})
		}
	}
	g := mustNew(t, grown(2, 3, 9, 5, 4)) // without an entry the base is the log's end
	g.Step(3, asked(9, 5, 3))
	g.Step(3, asked(9, 4, 4))
	g.Step(3, asked(9, 5, 4))
	mustSend(t, g, mail(2, 3, voted(9, false)), mail(2, 3, voted(9, false)), mail(2, 3, voted(9, true)))
}

// P16.1: a vote that was refused lets nobody wait longer, whoever stands.
func TestVoteAskRefusedDoesNotWaitAnew(t *testing.T) {
	g := mustNew(t, grown(2, 3, 4, 5, 1, noops(2, 3)...))
	ticks(g, 8)
	g.Step(3, asked(9, 7, 2))
	mustView(t, g, raft.View{Role: follower, Term: 9, Commit: 5, Base: 5, Last: 7})
	g.Tick()
	mustView(t, g, raft.View{Role: candidate, Term: 10, Vote: 2, Commit: 5, Base: 5, Last: 7})
}

// P16.1: one vote in each term: candidates and leaders have voted for themselves.
func TestVoteAskOfCandidatesAndLeaders(t *testing.T) {
	for _, g := range []*raft.Member{standing(t, begin(1, 3)), leading(t, begin(1, 3))} {
		was := g.View()
		g.Step(2, asked(1, 9, 1))
		mustSend(t, g, mail(1, 2, voted(1, false)))
		mustView(t, g, was)
		mustHaveChanged(t, g, raft.Change{})
		g.Step(2, asked(2, 9, 1)) // a greater Term: it follows, and votes
		mustSend(t, g, mail(1, 2, voted(2, true)))
		mustView(t, g, raft.View{Role: follower, Term: 2, Vote: 2, Last: was.Last})
		mustHaveChanged(t, g, raft.Change{Hard: true})
		g.Step(3, asked(2, 9, 1))
		g.Step(2, asked(2, 9, 1))
		mustSend(t, g, mail(1, 3, voted(2, false)), mail(1, 2, voted(2, true)))
		mustView(t, g, raft.View{Role: follower, Term: 2, Vote: 2, Last: was.Last})
	}
}

// P16.1: who does not vote answers whoever stands, whether that one votes or not.
func TestVoteAskOfThoseWhoDoNotVote(t *testing.T) {
	s := begin(3, 4)
	s.Voters = list(1, 2)
	g := mustNew(t, s)
	g.Step(1, asked(1, 0, 0))
	g.Step(4, asked(2, 0, 0))
	mustSend(t, g, mail(3, 1, voted(1, true)), mail(3, 4, voted(2, true)))
	mustView(t, g, raft.View{Role: follower, Term: 2, Vote: 4})
}

// P16.1: a member that follows a leader forgets it with its term, and not else.
func TestLeaderIsOfTheTerm(t *testing.T) {
	for _, x := range []api.Msg{asked(5, 0, 0), voted(5, true), voted(5, false), told(5, true, 1), told(5, false, 0)} {
		g := mustNew(t, grown(2, 3, 4, 0, 0))
		g.Step(1, laid(4, 0, 0, 0))
		forget(g)
		y := x
		y.Term = 4
		g.Step(3, y)
		if v := g.View(); v.Leader != 1 || v.Term != 4 {
			t.Errorf("%s: %+v", shown([]api.Mail{mail(3, 2, y)}), v)
		}
		forget(g)
		g.Step(3, x)
		if v := g.View(); v.Leader != 0 || v.Term != 5 || v.Role != follower {
			t.Errorf("%s: %+v", shown([]api.Mail{mail(3, 2, x)}), v)
		}
		mustHaveChanged(t, g, raft.Change{Hard: true})
	}
}

// P16.1: a vote counts for a candidate of its Term, once for each voter that granted it.
func TestVoteTell(t *testing.T) {
	five := begin(1, 5)
	four := begin(1, 5)
	four.Voters = list(1, 2, 3, 4)
	type vote struct {
		from, term int
		granted    bool
	}
	for _, x := range []struct {
		s     raft.Start
		votes []vote
		leads bool
	}{
		{five, []vote{{2, 1, true}, {3, 1, true}}, true},
		{five, []vote{{4, 1, true}, {5, 1, true}}, true},
		{five, []vote{{2, 1, true}}, false},
		{five, []vote{{2, 1, true}, {2, 1, true}, {2, 1, true}, {2, 1, true}}, false},
		{five, []vote{{2, 1, true}, {3, 1, false}}, false},
		{five, []vote{{2, 1, false}, {3, 1, false}, {4, 1, false}, {5, 1, false}}, false},
		{five, []vote{{2, 1, true}, {1, 1, true}}, false}, // from itself
		{five, []vote{{2, 1, true}, {3, 1, false}, {4, 1, true}}, true},
		{four, []vote{{2, 1, true}}, false}, // half of them
		{four, []vote{{2, 1, true}, {5, 1, true}}, false},
		{four, []vote{{5, 1, true}, {2, 1, true}, {3, 1, true}}, true},
		{begin(1, 2), []vote{{2, 1, false}}, false},
		{begin(1, 2), []vote{{2, 1, true}}, true},
		{begin(1, 3), []vote{{3, 1, true}}, true},
	} {
		g := standing(t, x.s)
		for _, v := range x.votes {
			g.Step(v.from, voted(v.term, v.granted))
		}
		if leads := g.View().Role == leader; leads != x.leads {
			t.Errorf("voters %v, votes %v: leads: %v", x.s.Voters, x.votes, leads)
		}
		if !x.leads {
			mustSend(t, g)
			mustHaveChanged(t, g, raft.Change{})
			mustView(t, g, raft.View{Role: candidate, Term: 1, Vote: 1})
		}
	}
}

// P16.1: a vote of an elder term does not count, and one of a later term makes a Follower.
func TestVoteTellOfOtherTerms(t *testing.T) {
	g := standing(t, grown(1, 3, 4, 0, 0))
	g.Step(2, voted(4, true))
	g.Step(3, voted(1, true))
	mustView(t, g, raft.View{Role: candidate, Term: 5, Vote: 1})
	mustHaveChanged(t, g, raft.Change{})
	g.Step(2, voted(6, true))
	mustView(t, g, raft.View{Role: follower, Term: 6})
	mustHaveChanged(t, g, raft.Change{Hard: true})
	mustSend(t, g)
}

// P16.1: who wins leads: a Noop of its Term goes to each other store, voter or not.
func TestLead(t *testing.T) {
	s := grown(2, 4, 6, 4, 2, noops(3, 5)...)
	s.Voters = list(1, 2, 3)
	g := standing(t, s)
	g.Step(1, voted(7, true))
	mustView(t, g, raft.View{Role: leader, Term: 7, Vote: 2, Leader: 2, Commit: 4, Base: 4, Last: 7})
	x := laid(7, 6, 5, 4, noop(7))
	mustSend(t, g, mail(2, 1, x), mail(2, 3, x), mail(2, 4, x))
	mustHaveChanged(t, g, raft.Change{From: 7})
	mustLog(t, g, noops(3, 5, 7)...)
}

// P16.1: votes that come to followers and leaders do nothing.
func TestVoteTellOfFollowersAndLeaders(t *testing.T) {
	f := forget(mustNew(t, grown(1, 3, 4, 0, 0)))
	l := leading(t, begin(1, 3))
	for _, g := range []*raft.Member{f, l} {
		was := look(g)
		for _, granted := range []bool{true, false} {
			g.Step(2, voted(was.view.Term, granted))
			g.Step(3, voted(was.view.Term, granted))
		}
		mustBeAs(t, "behind votes", g, was)
	}
	ticks(f, 8)
	forget(f)
	mustView(t, f, raft.View{Role: candidate, Term: 5, Vote: 1}) // what came before it stood is not there
	f.Step(3, voted(5, false))
	mustView(t, f, raft.View{Role: candidate, Term: 5, Vote: 1})
}

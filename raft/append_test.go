package raft_test

import (
	"testing"

	"buttery/api"
	"buttery/raft"
)

// logged is a Follower of the term 5: its base is 10, of the term 1; its entries at 11 to 14 are
// of the terms 1, 2, 2, 4; its Commit is 12; it knows of no leader, and all was asked for.
func logged(t *testing.T) *raft.Member {
	t.Helper()
	g := mustNew(t, grown(2, 3, 4, 10, 1, noops(1, 2, 2, 4)...))
	g.Step(3, laid(4, 12, 2, 12))
	ticks(g, 3)
	g.Step(3, voted(5, false))
	forget(g)
	mustView(t, g, raft.View{Role: follower, Term: 5, Commit: 12, Base: 10, Last: 14})
	return g
}

// P16.1: Append that is merged: which index is told, from where on the log was turned, and what
// Commit is then.
func TestAppend(t *testing.T) {
	for _, x := range []struct {
		index, term, commit int
		l                   []api.Entry
		log                 []api.Entry
		from, sum, become   int
	}{
		{14, 4, 12, nil, noops(1, 2, 2, 4), 0, 14, 12},
		{14, 4, 13, nil, noops(1, 2, 2, 4), 0, 14, 13},
		{14, 4, 14, nil, noops(1, 2, 2, 4), 0, 14, 14},
		{14, 4, 15, nil, noops(1, 2, 2, 4), 0, 14, 14},
		{14, 4, maxCount, nil, noops(1, 2, 2, 4), 0, 14, 14},
		{13, 2, 14, nil, noops(1, 2, 2, 4), 0, 13, 13},
		{14, 4, 0, nil, noops(1, 2, 2, 4), 0, 14, 12}, // Commit below: it stays
		{14, 4, 11, noops(4, 5), noops(1, 2, 2, 4, 4, 5), 15, 16, 12},
		{14, 4, 15, noops(4, 5), noops(1, 2, 2, 4, 4, 5), 15, 16, 15},
		{14, 4, 16, noops(4, 5), noops(1, 2, 2, 4, 4, 5), 15, 16, 16},
		{14, 4, 17, noops(4, 5), noops(1, 2, 2, 4, 4, 5), 15, 16, 16},
		{13, 2, 12, noops(4), noops(1, 2, 2, 4), 0, 14, 12}, // it is there
		{13, 2, 99, noops(3), noops(1, 2, 2, 3), 14, 14, 14},
		{12, 2, 12, noops(3), noops(1, 2, 3), 13, 13, 12},
		{12, 2, 13, noops(2), noops(1, 2, 2, 4), 0, 13, 13}, // what stands behind stays
		{12, 2, 12, noops(2, 5, 5), noops(1, 2, 2, 5, 5), 14, 15, 12},
		{10, 1, 0, noops(1, 2), noops(1, 2, 2, 4), 0, 12, 12},
		{10, 1, 99, noops(1, 2, 2, 5), noops(1, 2, 2, 5), 14, 14, 14},
		{10, 1, 99, nil, noops(1, 2, 2, 4), 0, 10, 12},
		{9, 0, 99, nil, noops(1, 2, 2, 4), 0, 9, 12}, // below the base
		{0, 0, 99, noops(1, 1, 1), noops(1, 2, 2, 4), 0, 3, 12},
		{8, 1, 99, noops(1, 1, 1, 2, 2, 5), noops(1, 2, 2, 5), 14, 14, 14},
		{9, 1, 99, noops(1), noops(1, 2, 2, 4), 0, 10, 12},
	} {
		g := logged(t)
		g.Step(1, laid(5, x.index, x.term, x.commit, x.l...))
		mustSend(t, g, mail(2, 1, told(5, true, x.sum)))
		mustHaveChanged(t, g, raft.Change{From: x.from})
		mustLog(t, g, x.log...)
		mustView(t, g, raft.View{Role: follower, Term: 5, Leader: 1, Commit: x.become, Base: 10, Last: 10 + len(x.log)})
	}
}

// P16.1: an entry of the term that stands there already is not turned, whatever it has; one of
// another term is.
func TestAppendKeepsWhatIsThere(t *testing.T) {
	g := mustNew(t, grown(2, 3, 5, 0, 0, change(1, "a"), change(2, "b")))
	g.Step(1, laid(5, 0, 0, 0, change(1, "x"), change(3, "y"), members(4, 2)))
	mustLog(t, g, change(1, "a"), change(3, "y"), members(4, 2))
	mustHaveChanged(t, g, raft.Change{From: 2})
	mustVoters(t, g, 2)
	g.Step(1, laid(5, 2, 3, 0, change(5, "z")))
	mustVoters(t, g, 1, 2, 3) // the Members entry was turned
	mustHaveChanged(t, g, raft.Change{From: 3})
}

// P16.1: where the log has no entry of PrevTerm at Index: the lesser of its last and Index less 1.
func TestAppendOfStrangers(t *testing.T) {
	for _, x := range []struct{ index, term, tells int }{
		{15, 4, 14}, {15, 5, 14}, {16, 0, 14}, {99, 5, 14}, {maxCount, 1, 14},
		{14, 3, 13}, {14, 5, 13}, {14, 0, 13}, {13, 4, 12}, {12, 1, 11}, {11, 2, 10}, {10, 0, 9}, {10, 2, 9}, {10, 5, 9},
	} {
		for _, l := range [][]api.Entry{nil, noops(5)} {
			if x.index == maxCount {
				l = nil
			}
			g := logged(t)
			g.Step(1, laid(5, x.index, x.term, 99, l...))
			mustSend(t, g, mail(2, 1, told(5, false, x.tells)))
			mustHaveChanged(t, g, raft.Change{})
			mustLog(t, g, noops(1, 2, 2, 4)...)
			mustView(t, g, raft.View{Role: follower, Term: 5, Leader: 1, Commit: 12, Base: 10, Last: 14})
		}
	}
	g := mustNew(t, grown(2, 3, 5, 0, 3)) // Index 0: there is none less
	g.Step(1, laid(5, 0, 2, 0))
	mustSend(t, g, mail(2, 1, told(5, false, 0)))
	g = mustNew(t, grown(2, 3, 5, 0, 0))
	g.Step(1, laid(5, 1, 2, 0))
	mustSend(t, g, mail(2, 1, told(5, false, 0)))
}

// P16.1: what would turn an entry up to Commit is not merged, nor answered; nor is what rlog
// refuses otherwise. It follows all the same.
func TestAppendThatMayNotTurn(t *testing.T) {
	for _, x := range []api.Msg{
		laid(5, 10, 1, 14, noops(2)...),             // 11
		laid(5, 11, 1, 14, noops(3)...),             // 12
		laid(5, 11, 1, 14, noops(3, 3, 3)...),       // 12 and on
		laid(5, 10, 1, 14, noops(1, 3, 3)...),       // 12, behind one that is there
		laid(5, 9, 1, 14, noops(1, 1, 4, 4, 4)...),  // 12, from below the base on
		laid(5, 10, 1, 14, noops(1, 1, 1, 1, 1)...), // 12, of an elder term
		laid(5, 8, 0, 14, noops(0+1, 1, 5)...),      // 11
	} {
		g := logged(t)
		g.Step(1, x)
		mustSend(t, g)
		mustHaveChanged(t, g, raft.Change{})
		mustLog(t, g, noops(1, 2, 2, 4)...)
		mustView(t, g, raft.View{Role: follower, Term: 5, Leader: 1, Commit: 12, Base: 10, Last: 14})
	}
	g := mustNew(t, grown(2, 3, 4, 10, 3, noops(4)...)) // rlog's ErrArg: the first one behind the base is of an elder term
	for _, x := range []api.Msg{laid(5, 9, 2, 12, noops(2, 2)...), laid(5, 8, 1, 12, noops(1, 2, 2, 5)...)} {
		g.Step(1, x)
		mustSend(t, g)
		mustHaveChanged(t, g, raft.Change{Hard: x.Index == 9})
		mustLog(t, g, noops(4)...)
		mustView(t, g, raft.View{Role: follower, Term: 5, Leader: 1, Commit: 10, Base: 10, Last: 11})
	}
	g.Step(1, laid(5, 8, 1, 12, noops(1, 2)...)) // nothing of it is behind the base
	mustSend(t, g, mail(2, 1, told(5, true, 10)))
}

// P16.1: who leads is heard and waited for; a member of a greater term tells so, and goes on.
func TestAppendOfTerms(t *testing.T) {
	for _, x := range []api.Msg{laid(4, 14, 4, 14), rested(4, 20, 4, "x", 1)} {
		g := logged(t)
		was := look(g)
		g.Step(1, x)
		mustSend(t, g, mail(2, 1, told(5, false, 0)))
		mustBeAs(t, "an elder term", g, was)
		y := x
		y.Term = 1
		y.PrevTerm = 1
		g.Step(3, y)
		mustSend(t, g, mail(2, 3, told(5, false, 0)))
		mustBeAs(t, "an elder term", g, was)

		y = x
		y.Term = 7
		g.Step(3, y)
		if v := g.View(); v.Term != 7 || v.Vote != 0 || v.Leader != 3 || v.Role != follower {
			t.Errorf("%+v", v)
		}
		if l := g.Mails(); len(l) != 1 || l[0].To != 3 || !l[0].Msg.Granted || l[0].Msg.Term != 7 {
			t.Errorf("%s", shown(l))
		}
		if c := g.Changed(); !c.Hard {
			t.Errorf("%+v", c)
		}
	}
}

// P16.1: Append and Snap of the same term make a candidate follow, and keep its vote; a leader
// they pass by.
func TestAppendOfCandidatesAndLeaders(t *testing.T) {
	for _, x := range []api.Msg{laid(5, 0, 0, 0, noops(5)...), rested(5, 9, 4, "x", 1, 2)} {
		g := standing(t, grown(2, 3, 4, 0, 0))
		g.Step(3, x)
		if v := g.View(); v.Role != follower || v.Leader != 3 || v.Term != 5 || v.Vote != 2 {
			t.Errorf("%+v", v)
		}
		g.Step(1, voted(5, true)) // it is a candidate no more
		if v := g.View(); v.Role != follower || v.Leader != 3 {
			t.Errorf("%+v", v)
		}
		g.Step(1, x) // another one: who was heard last
		if v := g.View(); v.Role != follower || v.Leader != 1 {
			t.Errorf("%+v", v)
		}

		g = leading(t, grown(2, 3, 4, 0, 0))
		was := look(g)
		g.Step(3, x)
		mustBeAs(t, "a leader", g, was)
	}
}

// P16.1: behind an Append or a Snap a member waits anew, also where nothing is merged; not behind
// one of an elder term.
func TestAppendIsWaitedFor(t *testing.T) {
	for _, x := range []struct {
		m     api.Msg
		waits bool
	}{
		{laid(5, 14, 4, 14), true}, {laid(5, 99, 4, 14), true}, {laid(5, 11, 1, 14, noops(3)...), true}, {laid(9, 14, 4, 14), true},
		{rested(5, 20, 4, "x", 1, 2), true}, {rested(5, 3, 1, "x", 1), true},
		{laid(4, 14, 4, 14), false}, {rested(4, 20, 4, "x", 1, 2), false}, {told(5, true, 3), false}, {voted(5, true), false},
		{laid(5, 14, 4, 14, noop(9)), false}, {rested(5, 20, 4, "x"), false},
	} {
		g := logged(t) // it has waited for three ticks
		ticks(g, 5)
		g.Step(1, x.m)
		g.Tick()
		if waits := g.View().Role == follower; waits != x.waits {
			t.Errorf("%s: waits anew: %v", shown([]api.Mail{mail(1, 2, x.m)}), waits)
		}
		if x.waits {
			ticks(g, 7)
			if g.View().Role != follower {
				t.Errorf("%s: it stands too early", shown([]api.Mail{mail(1, 2, x.m)}))
			}
			g.Tick()
			if g.View().Role != candidate {
				t.Errorf("%s: it stands too late", shown([]api.Mail{mail(1, 2, x.m)}))
			}
		}
	}
}

// P16.1: Snap below Commit and at it: it is told what is there. Above it: the log is cut there, if
// it has that entry; else it has that base and nothing else.
func TestSnap(t *testing.T) {
	for _, x := range []struct {
		index, term int
		base        bool
		from, sum   int
		log         []api.Entry
		voters      []int
	}{
		{0, 0, false, 0, 12, noops(1, 2, 2, 4), upTo(3)},
		{10, 1, false, 0, 12, noops(1, 2, 2, 4), upTo(3)},
		{11, 4, false, 0, 12, noops(1, 2, 2, 4), upTo(3)},
		{12, 2, false, 0, 12, noops(1, 2, 2, 4), upTo(3)},
		{12, 5, false, 0, 12, noops(1, 2, 2, 4), upTo(3)},
		{13, 2, true, 0, 13, noops(4), list(2, 3)},
		{13, 3, true, 14, 13, nil, list(2, 3)},
		{13, 1, true, 14, 13, nil, list(2, 3)},
		{13, 0, true, 14, 13, nil, list(2, 3)},
		{14, 4, true, 0, 14, nil, list(2, 3)},
		{14, 5, true, 15, 14, nil, list(2, 3)},
		{15, 4, true, 16, 15, nil, list(2, 3)},
		{15, 0, true, 16, 15, nil, list(2, 3)},
		{maxCount - 1, 5, true, maxCount, maxCount - 1, nil, list(2, 3)},
	} {
		g := logged(t)
		g.Step(1, rested(5, x.index, x.term, "now", 2, 3))
		mustSend(t, g, mail(2, 1, told(5, true, x.sum)))
		mustHaveChanged(t, g, raft.Change{Base: x.base, From: x.from})
		mustLog(t, g, x.log...)
		mustVoters(t, g, x.voters...)
		if x.base {
			mustRest(t, g, x.index, x.term, list(2, 3), "now")
			mustView(t, g, raft.View{Role: follower, Term: 5, Leader: 1, Commit: x.index, Base: x.index, Last: x.index + len(x.log)})
		} else {
			mustRest(t, g, 10, 1, upTo(3), "then")
			mustView(t, g, raft.View{Role: follower, Term: 5, Leader: 1, Commit: 12, Base: 10, Last: 14})
		}
	}
}

// P16.1: a Members entry behind a Snap goes before the base's voters; one up to it is gone.
func TestSnapAndMembers(t *testing.T) {
	l := []api.Entry{members(1, 1), noop(2), members(2, 1, 2), noop(3)}
	for i, want := range [][]int{{1, 2}, {1, 2}, {3}, {3}} {
		g := mustNew(t, grown(2, 3, 5, 0, 0, l...))
		mustVoters(t, g, 1, 2)
		g.Step(1, rested(5, i+1, l[i].Term, "now", 3))
		mustVoters(t, g, want...)
		mustRest(t, g, i+1, l[i].Term, list(3), "now")
		mustLog(t, g, l[i+1:]...)
	}
}

// P16.1: at the greatest index there is.
func TestSnapAtTheEnd(t *testing.T) {
	g := logged(t)
	g.Step(1, rested(5, maxCount, 5, "now", 1, 2, 3))
	mustSend(t, g, mail(2, 1, told(5, true, maxCount)))
	mustView(t, g, raft.View{Role: follower, Term: 5, Leader: 1, Commit: maxCount, Base: maxCount, Last: maxCount})
	g.Step(1, laid(5, maxCount, 5, maxCount))
	mustSend(t, g, mail(2, 1, told(5, true, maxCount)))
	g.Step(1, laid(5, maxCount, 5, maxCount, noop(5))) // no index is left: it may not be
	mustSend(t, g)
	g.Step(1, laid(5, maxCount-1, 5, maxCount, noop(5)))
	mustSend(t, g, mail(2, 1, told(5, true, maxCount)))
}

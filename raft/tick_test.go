package raft_test

import (
	"testing"

	"buttery/api"
	"buttery/raft"
)

// P16.1: a leader sends to each other store at each Beat, and not between.
func TestLeadersTicks(t *testing.T) {
	for stores := 2; stores <= maxStores; stores++ {
		for _, beat := range []int{1, 2, 3, 7, maxTicks} {
			s := begin(2, stores)
			s.Beat = beat
			g := leading(t, s)
			for range 3 {
				ticks(g, beat-1)
				mustSend(t, g)
				g.Tick()
				var want []api.Mail
				for to := 1; to <= stores; to++ {
					if to != 2 {
						want = append(want, mail(2, to, laid(1, 0, 0, 0, noop(1))))
					}
				}
				mustSend(t, g, want...)
				mustHaveChanged(t, g, raft.Change{})
			}
			mustView(t, g, raft.View{Role: leader, Term: 1, Vote: 2, Leader: 2, Last: 1})
		}
	}
}

// P16.1: a leader's ticks begin anew when it begins to lead, and not when it sends for another
// reason.
func TestLeaderWaits(t *testing.T) {
	s := begin(1, 2)
	s.Beat = 5
	g := standing(t, s)
	ticks(g, 7)
	g.Step(2, voted(1, true))
	forget(g)
	ticks(g, 3)
	mustSend(t, g)
	mustPropose(t, g, change(0, "x"), 2)
	mustSend(t, g, mail(1, 2, laid(1, 0, 0, 0, noop(1), change(1, "x"))))
	g.Tick()
	mustSend(t, g)
	g.Tick()
	mustSend(t, g, mail(1, 2, laid(1, 0, 0, 0, noop(1), change(1, "x"))))
}

// P16.1: who stands asks each other voter, by rising numbers, with its log's end.
func TestStand(t *testing.T) {
	s := grown(2, 5, 4, 6, 2, noops(3, 3)...)
	s.Vote, s.Voters = 5, list(1, 2, 4)
	g := mustNew(t, s)
	g.Step(4, laid(4, 8, 3, 0)) // it knows of a leader
	forget(g)
	ticks(g, 8)
	mustView(t, g, raft.View{Role: follower, Term: 4, Vote: 5, Leader: 4, Commit: 6, Base: 6, Last: 8})
	mustSend(t, g)
	g.Tick()
	mustView(t, g, raft.View{Role: candidate, Term: 5, Vote: 2, Commit: 6, Base: 6, Last: 8})
	mustSend(t, g, mail(2, 1, asked(5, 8, 3)), mail(2, 4, asked(5, 8, 3)))
	mustHaveChanged(t, g, raft.Change{Hard: true})
	mustLog(t, g, noops(3, 3)...)
	g.Step(1, voted(5, true)) // its own vote is there
	if v := g.View(); v.Role != leader {
		t.Errorf("View: %+v", v)
	}
}

// P16.1: a candidate stands again each time that its patience is at its end, with no vote but its
// own.
func TestCandidateTicksOn(t *testing.T) {
	g := standing(t, begin(3, 5))
	g.Step(2, voted(1, true))
	for term := 2; term <= 4; term++ {
		ticks(g, 9)
		mustView(t, g, raft.View{Role: candidate, Term: term - 1, Vote: 3})
		mustSend(t, g)
		mustHaveChanged(t, g, raft.Change{})
		g.Tick()
		mustView(t, g, raft.View{Role: candidate, Term: term, Vote: 3})
		x := asked(term, 0, 0)
		mustSend(t, g, mail(3, 1, x), mail(3, 2, x), mail(3, 4, x), mail(3, 5, x))
		mustHaveChanged(t, g, raft.Change{Hard: true})
		g.Step(1+term%2, voted(term, true)) // with the one of an elder term it would be enough
		mustView(t, g, raft.View{Role: candidate, Term: term, Vote: 3})
	}
}

// P16.1: who is not among the voters does not stand, however long it waits, but while the last
// Members entry is above Commit.
func TestOnlyVotersStand(t *testing.T) {
	s := begin(3, 3)
	s.Voters = list(1, 2)
	g := mustNew(t, s)
	ticks(g, 100)
	mustView(t, g, raft.View{Role: follower})
	mustSend(t, g)
	mustHaveChanged(t, g, raft.Change{})

	// A Members entry without it, above Commit: it stands at once, and its own vote does not count.
	g.Step(1, laid(1, 0, 0, 0, noop(1), members(1, 1, 2)))
	forget(g)
	ticks(g, 9)
	mustView(t, g, raft.View{Role: follower, Term: 1, Leader: 1, Last: 2})
	g.Tick()
	mustView(t, g, raft.View{Role: candidate, Term: 2, Vote: 3, Last: 2})
	mustSend(t, g, mail(3, 1, asked(2, 2, 1)), mail(3, 2, asked(2, 2, 1)))
	g.Step(1, voted(2, true))
	mustView(t, g, raft.View{Role: candidate, Term: 2, Vote: 3, Last: 2})
	c := g.Copy()
	g.Step(2, voted(2, true))
	mustView(t, g, raft.View{Role: leader, Term: 2, Vote: 3, Leader: 3, Last: 3})

	// The same entry up to Commit: it does not.
	c.Step(1, laid(2, 2, 1, 2))
	forget(c)
	ticks(c, 100)
	mustView(t, c, raft.View{Role: follower, Term: 2, Vote: 3, Leader: 1, Commit: 2, Last: 2})
	mustSend(t, c)

	// It votes again by an entry above Commit.
	c.Step(1, laid(2, 2, 1, 2, members(2, 1, 2, 3)))
	forget(c)
	ticks(c, 10)
	mustSend(t, c, mail(3, 1, asked(3, 3, 2)), mail(3, 2, asked(3, 3, 2)))
}

// P16.1: the last Members entry is asked for, not one ahead of it: an entry up to Commit that has
// it, one above that has it not, and the other way round.
func TestLastMembersEntryCounts(t *testing.T) {
	for _, x := range []struct {
		commit int
		stands bool
		l      []api.Entry
	}{
		{1, false, []api.Entry{members(1, 1, 2)}},
		{0, true, []api.Entry{members(1, 1, 2)}},
		{1, true, []api.Entry{members(1, 1, 2, 3)}},
		{2, false, []api.Entry{members(1, 1, 2, 3), members(1, 1, 2)}},
		{1, true, []api.Entry{members(1, 1, 2, 3), members(1, 1, 2)}},
		{2, true, []api.Entry{members(1, 1, 2), members(1, 1, 2, 3)}},
		{2, false, []api.Entry{members(1, 1, 2), noop(1), noop(1)}},
		{1, false, []api.Entry{members(1, 1, 2), noop(1), change(1, "x")}},
		{0, true, []api.Entry{members(1, 1, 2), noop(1), change(1, "x")}},
		{2, true, []api.Entry{members(1, 1, 2), noop(1), members(1, 1, 2)}},
	} {
		g := mustNew(t, begin(3, 3))
		g.Step(1, laid(1, 0, 0, x.commit, x.l...))
		forget(g)
		ticks(g, 10)
		if is := g.View().Role == candidate; is != x.stands {
			t.Errorf("%s, Commit %d: stands: %v", shown(x.l), x.commit, is)
		}
	}
}

// P16.1: at the greatest Term nobody stands; at the one ahead of it they do.
func TestNoTermIsLeft(t *testing.T) {
	g := mustNew(t, grown(1, 3, maxCount, 0, 0))
	ticks(g, 100)
	mustView(t, g, raft.View{Role: follower, Term: maxCount})
	mustSend(t, g)
	mustHaveChanged(t, g, raft.Change{})

	g = mustNew(t, grown(1, 3, maxCount-1, 0, 0))
	ticks(g, 8)
	mustView(t, g, raft.View{Role: candidate, Term: maxCount, Vote: 1})
	mustSend(t, g, mail(1, 2, asked(maxCount, 0, 0)), mail(1, 3, asked(maxCount, 0, 0)))
	ticks(g, 100)
	mustView(t, g, raft.View{Role: candidate, Term: maxCount, Vote: 1})
	mustSend(t, g)
	g.Step(3, voted(maxCount, true))
	mustView(t, g, raft.View{Role: leader, Term: maxCount, Vote: 1, Leader: 1, Last: 1})

	g = mustNew(t, grown(1, 1, maxCount, 0, 0))
	ticks(g, 100)
	mustView(t, g, raft.View{Role: follower, Term: maxCount})
}

// P16.1: a group of one leads at once, and agrees with itself.
func TestGroupOfOne(t *testing.T) {
	g := mustNew(t, begin(1, 1))
	ticks(g, 7)
	mustView(t, g, raft.View{Role: follower})
	g.Tick()
	mustView(t, g, raft.View{Role: leader, Term: 1, Vote: 1, Leader: 1, Commit: 1, Last: 1})
	mustLog(t, g, noop(1))
	mustSend(t, g)
	mustHaveChanged(t, g, raft.Change{Hard: true, From: 1})
	ticks(g, 100)
	mustView(t, g, raft.View{Role: leader, Term: 1, Vote: 1, Leader: 1, Commit: 1, Last: 1})
	mustSend(t, g)
	mustHaveChanged(t, g, raft.Change{})
}

// P16.1: one that votes alone among more stores leads at once, and sends to the others.
func TestVoterAlone(t *testing.T) {
	s := grown(2, 3, 4, 6, 2, noop(3))
	s.Voters = list(2)
	g := mustNew(t, s)
	ticks(g, 9)
	mustView(t, g, raft.View{Role: leader, Term: 5, Vote: 2, Leader: 2, Commit: 8, Base: 6, Last: 8})
	mustSend(t, g, mail(2, 1, laid(5, 7, 3, 8, noop(5))), mail(2, 3, laid(5, 7, 3, 8, noop(5))))
	mustHaveChanged(t, g, raft.Change{Hard: true, From: 8})
}

// P16.1: where no entry finds room, a candidate that has won stays one; its Term and Vote are set.
func TestNoRoomToLead(t *testing.T) {
	g := mustNew(t, grown(1, 1, 4, maxCount, 2))
	ticks(g, 8)
	mustView(t, g, raft.View{Role: candidate, Term: 5, Vote: 1, Commit: maxCount, Base: maxCount, Last: maxCount})
	mustSend(t, g)
	mustHaveChanged(t, g, raft.Change{Hard: true})
	ticks(g, 8)
	mustView(t, g, raft.View{Role: candidate, Term: 6, Vote: 1, Commit: maxCount, Base: maxCount, Last: maxCount})
	mustSend(t, g)

	g = mustNew(t, grown(1, 3, 4, maxCount-1, 2, noop(3)))
	ticks(g, 8)
	mustSend(t, g, mail(1, 2, asked(5, maxCount, 3)), mail(1, 3, asked(5, maxCount, 3)))
	mustHaveChanged(t, g, raft.Change{Hard: true})
	g.Step(2, voted(5, true))
	mustView(t, g, raft.View{Role: candidate, Term: 5, Vote: 1, Commit: maxCount - 1, Base: maxCount - 1, Last: maxCount})
	mustSend(t, g)
	mustHaveChanged(t, g, raft.Change{})
	g.Step(3, voted(5, true))
	mustView(t, g, raft.View{Role: candidate, Term: 5, Vote: 1, Commit: maxCount - 1, Base: maxCount - 1, Last: maxCount})

	g = mustNew(t, grown(1, 1, 4, maxCount-1, 2)) // room for one
	ticks(g, 8)
	mustView(t, g, raft.View{Role: leader, Term: 5, Vote: 1, Leader: 1, Commit: maxCount, Base: maxCount - 1, Last: maxCount})
}

// P16.1: a member that ticks now and then, against the chapter done plainly: with all voters, each
// ID, and Members entries on either side of Commit.
func TestTicksAsInMind(t *testing.T) {
	for bits := 1; bits < 32; bits++ {
		for id := 1; id <= maxStores; id++ {
			s := grown(id, maxStores, 3, 2, 1, noop(1), members(2, subset(bits, maxStores)...), noop(2))
			s.Voters = subset((bits*7)%31+1, maxStores)
			for commit := 2; commit <= 5; commit++ {
				b := mustBoth(t, s)
				b.step(id%maxStores+1, laid(3, 5, 2, commit))
				for range 30 {
					b.tick()
					b.mustBeAlike(t, "a tick")
				}
				for from := 1; from <= maxStores; from++ {
					b.step(from, voted(b.m.term, true))
					b.mustBeAlike(t, "a vote")
				}
				for range 12 {
					b.tick()
					b.mustBeAlike(t, "a tick later")
				}
			}
		}
	}
}

package raft_test

import (
	"fmt"
	"slices"
	"testing"

	"buttery/api"
)

// come lets all that is under way between two members come, till there is none.
func (g *group) come(a, b int) {
	g.t.Helper()
	for range 1000 {
		i := slices.IndexFunc(g.flights, func(x api.Mail) bool { return x.From == a && x.To == b || x.From == b && x.To == a })
		if i < 0 {
			return
		}
		g.deliver(i, false)
	}
	g.t.Fatalf("%s: there is no end of messages between %d and %d: %s", g.what, a, b, shown(g.flights))
}

// hear lets the eldest of a Kind come that is under way from one to another one.
func (g *group) hear(from, to int, kind uint8, stays bool) {
	g.t.Helper()
	i := slices.IndexFunc(g.flights, func(x api.Mail) bool { return x.From == from && x.To == to && x.Msg.Kind == kind })
	if i < 0 {
		g.t.Fatalf("%s: nothing of the Kind %d is under way from %d to %d: %s", g.what, kind, from, to, shown(g.flights))
	}
	g.deliver(i, stays)
}

// stand lets a member tick until its Term is above a term; what is under way then it sent last.
func (g *group) stand(store, term int) {
	g.t.Helper()
	for range 10 * g.begun.Elect {
		g.flights = nil
		g.tick(store - 1)
		if g.members[store-1].View().Term > term {
			return
		}
	}
	g.t.Fatalf("%s: %d does not stand: %+v", g.what, store, g.was)
}

// elect lets a member lead in a new term by others' votes alone; its other asking is under way.
func (g *group) elect(store int, by ...int) {
	g.t.Helper()
	most := 0
	for _, m := range g.members {
		most = max(most, m.View().Term)
	}
	g.stand(store, most)
	for _, v := range by {
		g.hear(store, v, voteAsk, false)
		g.hear(v, store, voteTell, false)
	}
	if g.members[store-1].View().Role != leader {
		g.t.Fatalf("%s: %d does not lead: %+v", g.what, store, g.was)
	}
}

// beat lets a leader's next word come to all.
func (g *group) beat(store int) {
	g.t.Helper()
	for range g.begun.Beat {
		g.tick(store - 1)
	}
	for to := range g.members {
		g.come(store, to+1)
	}
}

// lay proposes so many Changes to a leader.
func (g *group) lay(store, many int) {
	g.t.Helper()
	for k := range many {
		if _, err := g.members[store-1].Propose(api.Change, fmt.Sprint(store, k), nil); err != api.OK {
			g.t.Fatalf("%s: Propose at %d: %v", g.what, store, err)
		}
		g.done(store - 1)
	}
}

// mustCommit asks for somebody's Commit.
func (g *group) mustCommit(store, want int) {
	g.t.Helper()
	if v := g.members[store-1].View(); v.Commit != want {
		g.t.Fatalf("%s: %d: %+v, want Commit %d", g.what, store, v, want)
	}
}

// fresh is a group at its very beginning.
func fresh(t *testing.T, what string, stores int, voters ...int) *group {
	t.Helper()
	r := row(1)
	s := begin(1, stores)
	s.Voters = voters
	return gathered(t, &r, what, s, map[string]int{})
}

// P16.6: entries of an elder term that more than half have are not agreed upon by themselves: who
// has not all of them could lead still.
func TestElderTermsDoNotCount(t *testing.T) {
	g := fresh(t, "elder terms", 5, upTo(5)...)
	g.elect(1, 2, 3)
	g.lay(1, 10)
	g.come(1, 2) // 1 and 2 have eleven entries of the term 1
	g.elect(5, 3, 4)
	g.lay(5, 1) // 5 has two of the term 2
	g.hear(5, 1, voteAsk, false)
	g.elect(1, 2, 3)
	g.hear(1, 5, voteAsk, false)
	g.hear(1, 2, appendAsk, false)
	g.hear(2, 1, appendTell, false)
	g.hear(1, 3, appendAsk, false)  // it has none of them,
	g.hear(3, 1, appendTell, false) // and tells so
	g.hear(1, 3, appendAsk, false)  // eight of the term 1
	g.hear(3, 1, appendTell, false) // more than half have these eight
	g.mustCommit(1, 0)
	g.elect(5, 3, 4)
	for store := 1; store <= 4; store++ {
		g.come(5, store)
	}
	g.mustCommit(5, 3)
	g.beat(5)
	for store := 1; store <= 4; store++ {
		g.mustCommit(store, 3)
	}
}

// P16.6: a new leader may not turn the voters ahead of its own first entry: with those that an
// elder leader asked in, another one could lead.
func TestVotersTurnOneLeaderAtATime(t *testing.T) {
	g := fresh(t, "turning voters", 5, 1, 2, 3, 4)
	g.elect(1, 2, 3)
	for store := 2; store <= 5; store++ {
		g.come(1, store)
	}
	g.mustCommit(1, 1)
	if _, err := g.members[0].Propose(api.Members, "", upTo(5)); err != api.OK {
		t.Fatal(err)
	}
	g.done(0)
	g.elect(2, 3, 4) // 1 alone has that
	if _, err := g.members[1].Propose(api.Members, "", list(2, 3, 4)); err != api.ErrBusy {
		t.Fatalf("Propose: %v", err)
	}
	g.hear(2, 3, appendAsk, false)
	g.hear(3, 2, appendTell, false) // two of four: nothing is agreed upon
	g.mustCommit(2, 0)
	g.hear(2, 1, voteAsk, false)
	g.elect(1, 4, 5) // by the five voters that it knows of
	for store := 2; store <= 5; store++ {
		g.come(1, store)
	}
	g.mustCommit(1, 3)
	g.beat(1)
	for store := 1; store <= 5; store++ {
		g.mustCommit(store, 3)
		mustVoters(t, g.members[store-1], upTo(5)...)
	}
}

// P16.6: a member knows as agreed upon what a message reached, not what it has behind that.
func TestWhatStandsBehindIsNotAgreedUpon(t *testing.T) {
	g := fresh(t, "what stands behind", 3, upTo(3)...)
	g.elect(3, 1)
	g.lay(3, 9)
	g.come(3, 1)
	g.come(3, 2)
	g.mustCommit(3, 10)
	g.lay(3, 10) // it alone has 11 to 20 of the term 1
	g.elect(1, 2)
	g.hear(1, 3, voteAsk, false)
	g.lay(1, 9)
	g.come(1, 2)
	g.mustCommit(1, 20) // 11 to 20 of the term 2
	g.stand(3, g.members[0].View().Term)
	g.hear(3, 1, voteAsk, false)
	g.elect(1, 2) // its next is behind 20 now
	g.hear(1, 3, appendAsk, false)
	for range 18 { // what 3 tells comes again and again
		g.hear(3, 1, appendTell, true)
	}
	i := len(g.flights) - 1
	if x := g.flights[i].Msg; x.Index != 2 || x.Commit != 20 || len(x.Entries) != maxSend {
		t.Fatalf("sent last: %s", shown(g.flights[i:]))
	}
	g.deliver(i, false)
	if v := g.members[2].View(); v.Last != 20 || v.Commit != 10 {
		t.Fatalf("%+v", v)
	}
	g.come(1, 3)
	g.mustCommit(1, 21)
	g.beat(1)
	g.mustCommit(3, 21)
}

// P16.5: one that was made anew keeps its vote.
func TestVoteIsKept(t *testing.T) {
	g := fresh(t, "a vote", 3, upTo(3)...)
	for store := 1; store <= 2; store++ {
		for range g.begun.Elect + store - 1 {
			g.tick(store - 1)
		}
	}
	g.hear(1, 3, voteAsk, false)
	g.anew(2)
	g.hear(2, 3, voteAsk, false)
	g.hear(3, 1, voteTell, false)
	g.hear(3, 2, voteTell, false)
	if a, b := g.members[0].View().Role, g.members[1].View().Role; a != leader || b != candidate {
		t.Fatal(a, b)
	}
}

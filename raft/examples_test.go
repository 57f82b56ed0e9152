package raft_test

import (
	"testing"

	"buttery/api"
	"buttery/raft"
)

// The chapter's first example.
func TestExample1(t *testing.T) {
	one, two := mustNew(t, begin(1, 3)), mustNew(t, begin(2, 3))
	ticks(one, 8)
	mustView(t, one, raft.View{Role: candidate, Term: 1, Vote: 1})
	ask := asked(1, 0, 0)
	mustSend(t, one, mail(1, 2, ask), mail(1, 3, ask))
	two.Step(1, ask)
	mustSend(t, two, mail(2, 1, voted(1, true)))
	one.Step(2, voted(1, true))
	mustView(t, one, raft.View{Role: leader, Term: 1, Vote: 1, Leader: 1, Last: 1})
	lay := laid(1, 0, 0, 0, noop(1))
	mustSend(t, one, mail(1, 2, lay), mail(1, 3, lay))
	two.Step(1, lay)
	mustView(t, two, raft.View{Role: follower, Term: 1, Vote: 1, Leader: 1, Last: 1})
	mustSend(t, two, mail(2, 1, told(1, true, 1)))
	one.Step(2, told(1, true, 1))
	mustView(t, one, raft.View{Role: leader, Term: 1, Vote: 1, Leader: 1, Commit: 1, Last: 1})
	mustSend(t, one)
}

// The chapter's patiences: Elect 8: 8, 9 and 10.
func TestExamplePatiences(t *testing.T) {
	for id, patience := range map[int]int{1: 8, 2: 9, 3: 10} {
		g := mustNew(t, begin(id, 3))
		ticks(g, patience-1)
		mustView(t, g, raft.View{Role: follower})
		g.Tick()
		mustView(t, g, raft.View{Role: candidate, Term: 1, Vote: id})
	}
}

// The chapter's second example.
func TestExample2(t *testing.T) {
	one, two := mustNew(t, begin(1, 3)), mustNew(t, begin(2, 3))
	ticks(one, 8)
	one.Step(2, voted(1, true))
	two.Step(1, laid(1, 0, 0, 0, noop(1)))
	one.Step(2, told(1, true, 1))
	forget(one)
	forget(two)
	mustPropose(t, one, change(0, "x"), 2)
	mustNotPropose(t, two, change(0, "x"), api.ErrLeader)
	mustPropose(t, one, members(0, 1, 2), 3)
	mustNotPropose(t, one, members(0, 1, 2), api.ErrBusy)
}

// The chapter's third example.
func TestExample3(t *testing.T) {
	g := mustNew(t, begin(1, 1))
	ticks(g, 8)
	mustView(t, g, raft.View{Role: leader, Term: 1, Vote: 1, Leader: 1, Commit: 1, Last: 1})
}

package raft_test

import (
	"fmt"
	"math"
	"testing"

	"buttery/api"
	"buttery/raft"
)

// P16.3: Mails are what was sent by all that was done since they were asked for, in order.
func TestMails(t *testing.T) {
	g := mustNew(t, begin(1, 3))
	mustSend(t, g)
	ticks(g, 8)
	g.Step(2, voted(1, true))
	g.Step(3, asked(1, 4, 1))
	g.Step(2, told(1, true, 1))
	mustPropose(t, g, change(0, "x"), 2)
	ticks(g, 2)
	g.Step(3, asked(2, 4, 1))
	a := asked(1, 0, 0)
	n, x := noop(1), change(1, "x")
	mustSend(t, g,
		mail(1, 2, a), mail(1, 3, a),
		mail(1, 2, laid(1, 0, 0, 0, n)), mail(1, 3, laid(1, 0, 0, 0, n)),
		mail(1, 3, voted(1, false)),
		mail(1, 2, laid(1, 1, 1, 1, x)), mail(1, 3, laid(1, 0, 0, 1, n, x)),
		mail(1, 2, laid(1, 1, 1, 1, x)), mail(1, 3, laid(1, 0, 0, 1, n, x)),
		mail(1, 3, voted(2, true)))
	ticks(g, 8)
	mustSend(t, g, mail(1, 2, asked(3, 2, 1)), mail(1, 3, asked(3, 2, 1)))
}

// P16.3: Changed, behind each call that sets, and behind each that does not.
func TestChangedHard(t *testing.T) {
	g := mustNew(t, grown(2, 3, 4, 0, 0))
	is := func(want raft.Change) {
		t.Helper()
		mustHaveChanged(t, g, want)
	}
	is(raft.Change{})
	g.Step(1, asked(4, 0, 0)) // a Vote
	is(raft.Change{Hard: true})
	g.Step(3, asked(4, 0, 0)) // refused
	g.Tick()
	g.Step(1, voted(4, true))
	g.Step(3, voted(3, true))
	g.Step(3, laid(4, 0, 0, 0)) // a leader: it is not kept
	g.Step(3, told(4, true, 0))
	is(raft.Change{})
	g.Step(1, asked(4, 0, 0)) // once more: it is set again
	is(raft.Change{Hard: true})
	g.Step(1, voted(5, false)) // a Term
	is(raft.Change{Hard: true})
	g.Step(3, laid(6, 9, 0, 0)) // a Term, and nothing is merged
	is(raft.Change{Hard: true})
	g.Step(3, laid(6, 0, 0, 0, noop(6)))
	is(raft.Change{From: 1})
	ticks(g, 9)
	is(raft.Change{Hard: true})
	g.Step(1, voted(7, true))
	is(raft.Change{From: 2})
	ticks(g, 100)
	is(raft.Change{})
	g.Step(1, laid(9, 1, 6, 1, noop(8), noop(9))) // all at once
	is(raft.Change{Hard: true, From: 2})
	g.Step(1, rested(10, 5, 9, "x", 1))
	is(raft.Change{Hard: true, Base: true, From: 6})
}

// P16.3: From is the first index from which on the log was turned, of all since it was asked.
func TestChangedFrom(t *testing.T) {
	g := mustNew(t, grown(2, 3, 9, 0, 0, noops(1, 1, 1, 1, 1)...))
	g.Step(1, laid(9, 4, 1, 0, noops(2)...))
	g.Step(1, laid(9, 2, 1, 0, noops(3, 3, 3)...))
	g.Step(1, laid(9, 5, 3, 0, noops(4)...))
	mustHaveChanged(t, g, raft.Change{From: 3})
	g.Step(1, laid(9, 5, 3, 0, noops(4)...)) // it is there
	g.Step(1, laid(9, 0, 0, 0, noops(1, 1)...))
	g.Step(1, laid(9, 3, 1, 0, noops(4)...)) // it is refused
	mustHaveChanged(t, g, raft.Change{})
	g.Step(1, laid(9, 6, 4, 0, noops(5, 6, 7)...))
	mustHaveChanged(t, g, raft.Change{From: 7})

	l := leading(t, begin(1, 1))
	mustPropose(t, l, change(0, "x"), 2)
	mustPropose(t, l, change(0, "y"), 3)
	mustHaveChanged(t, l, raft.Change{From: 2})
	mustPropose(t, l, change(0, "z"), 4)
	mustHaveChanged(t, l, raft.Change{From: 4})
}

// P16.3: Base, by Compact too, also where it stays the same base; From is an index above it.
func TestChangedBase(t *testing.T) {
	fresh := func() *raft.Member {
		g := leading(t, begin(1, 1))
		for i := 2; i <= 6; i++ {
			mustPropose(t, g, change(0, "x"), i)
		}
		g.Changed()
		return g
	}
	g := fresh()
	mustCompact(t, g, 0, "same", api.OK)
	mustHaveChanged(t, g, raft.Change{Base: true})
	mustCompact(t, g, 7, "none", api.ErrArg)
	mustHaveChanged(t, g, raft.Change{})
	mustCompact(t, g, 4, "more", api.OK)
	mustHaveChanged(t, g, raft.Change{Base: true})
	mustCompact(t, g, 6, "all", api.OK) // it was cut, and nothing of it was turned
	mustHaveChanged(t, g, raft.Change{Base: true})
	mustPropose(t, g, change(0, "y"), 7)
	mustHaveChanged(t, g, raft.Change{From: 7})

	for cut, want := range map[int]int{1: 7, 6: 7, 7: 8, 8: 9, 9: 10} { // 7 to 9 are turned, then cut
		g = fresh()
		for i := 7; i <= 9; i++ {
			mustPropose(t, g, change(0, "y"), i)
		}
		mustCompact(t, g, cut, "cut", api.OK)
		mustHaveChanged(t, g, raft.Change{Base: true, From: want})
	}
	g = fresh() // turned, cut, and turned again
	mustPropose(t, g, change(0, "y"), 7)
	mustCompact(t, g, 7, "cut", api.OK)
	mustPropose(t, g, change(0, "z"), 8)
	mustHaveChanged(t, g, raft.Change{Base: true, From: 8})
}

// P16.3: behind a Snap: a log that has a base and nothing else then is turned from behind that on.
func TestChangedBySnap(t *testing.T) {
	for _, x := range []struct {
		index, term int
		want        raft.Change
	}{
		{3, 2, raft.Change{Base: true}}, // cut
		{5, 2, raft.Change{Base: true}}, // cut at the last
		{3, 1, raft.Change{Base: true, From: 4}},
		{5, 3, raft.Change{Base: true, From: 6}},
		{20, 2, raft.Change{Base: true, From: 21}},
		{1, 5, raft.Change{}}, // up to Commit
	} {
		g := mustNew(t, grown(2, 3, 9, 0, 0, noops(1, 2, 2, 2, 2)...))
		g.Step(1, laid(9, 1, 1, 1))
		forget(g)
		c := g.Copy()
		g.Step(1, rested(9, x.index, x.term, "x", 1, 2))
		mustHaveChanged(t, g, x.want)

		c.Step(1, laid(9, 2, 2, 1, noops(3)...)) // turned ahead of it: an entry of the term 3 stands at 3
		c.Step(1, rested(9, 20, 9, "x", 1, 2))
		c.Step(1, laid(9, 20, 9, 1, noops(9)...))
		mustHaveChanged(t, c, raft.Change{Base: true, From: 21})
		mustLog(t, c, noop(9))
	}
}

// P16.4: Log and Entries behind each index, of each number.
func TestLogAndEntries(t *testing.T) {
	l := []api.Entry{change(1, "a"), members(2, 1, 2), change(2, "b"), noop(4)}
	g := mustNew(t, grown(2, 3, 4, 10, 1, l...))
	g.Step(3, laid(4, 12, 2, 12))
	for _, x := range []struct {
		after, most int
		log, agreed []api.Entry
	}{
		{10, 99, l, l[:2]}, {9, 99, l, l[:2]}, {0, 99, l, l[:2]}, {-1, 99, l, l[:2]}, {math.MinInt, math.MaxInt, l, l[:2]},
		{11, 99, l[1:], l[1:2]}, {12, 99, l[2:], nil}, {13, 99, l[3:], nil}, {14, 99, nil, nil}, {15, 99, nil, nil}, {math.MaxInt, 99, nil, nil}, {math.MaxInt - 1, math.MaxInt, nil, nil},
		{10, 0, nil, nil}, {10, -1, nil, nil}, {10, math.MinInt, nil, nil},
		{10, 1, l[:1], l[:1]}, {10, 2, l[:2], l[:2]}, {10, 3, l[:3], l[:2]}, {10, 4, l, l[:2]}, {10, 5, l, l[:2]},
		{11, 1, l[1:2], l[1:2]}, {11, 2, l[1:3], l[1:2]}, {0, 1, l[:1], l[:1]}, {13, 1, l[3:], nil}, {12, 1, l[2:3], nil},
	} {
		if got := g.Log(x.after, x.most); !sameAll(got, x.log) {
			t.Errorf("Log(%d, %d): %s, want %s", x.after, x.most, shown(got), shown(x.log))
		}
		if got := g.Entries(x.after, x.most); !sameAll(got, x.agreed) {
			t.Errorf("Entries(%d, %d): %s, want %s", x.after, x.most, shown(got), shown(x.agreed))
		}
	}
	mustBoth(t, grown(1, 3, 4, maxCount-2, 1, noops(2, 2)...)).mustTell(t, "at the greatest index")
	for what, b := range stands(t) {
		b.mustStand(t, what)
		b.mustTell(t, what)
	}
}

// P16.4: what is looked at is not changed by looking.
func TestLookingChangesNothing(t *testing.T) {
	for what, b := range stands(t) {
		ticks(b.g, 3)
		was := look(b.g)
		for range 2 {
			b.g.View()
			b.g.Voters()
			b.g.Log(0, 99)
			b.g.Entries(0, 99)
			b.g.Snapshot()
			b.g.Copy()
			mustBeAs(t, what, b.g, was)
		}
	}
}

// P16.4: a copy and what it is of go their own ways, with all that they have: what was sent and
// what changed, too.
func TestCopy(t *testing.T) {
	r := row(3)
	for what, b := range stands(t) {
		for try := range 60 {
			what := fmt.Sprint(what, ", ", try)
			one := b.twin()
			for range r.next(8) {
				r.play(t, one) // there may be mails and changes by now
			}
			other := one.twin()
			if one.g == other.g {
				t.Fatal("a copy is the member itself")
			}
			for range 12 {
				x := one
				if r.next(2) == 0 {
					x = other
				}
				r.play(t, x)
				one.mustStand(t, what)
				other.mustStand(t, what)
			}
			one.mustBeAlike(t, what)
			other.mustBeAlike(t, what)
		}
	}
}

// P16.4: a copy's votes are its own.
func TestCopyVotes(t *testing.T) {
	g := standing(t, begin(1, 5))
	c := g.Copy()
	g.Step(2, voted(1, true))
	c.Step(3, voted(1, true))
	c.Step(3, voted(1, true))
	for _, x := range []*raft.Member{g, c} {
		mustView(t, x, raft.View{Role: candidate, Term: 1, Vote: 1})
	}
	d := g.Copy()
	g.Step(4, voted(1, true))
	if g.View().Role != leader || d.View().Role != candidate || c.View().Role != candidate {
		t.Error(g.View(), c.View(), d.View())
	}
	d.Step(2, voted(1, true))
	mustView(t, d, raft.View{Role: candidate, Term: 1, Vote: 1})
}

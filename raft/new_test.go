package raft_test

import (
	"fmt"
	"math"
	"testing"

	"buttery/api"
	"buttery/raft"
)

// P16.1: a member is as said: a Follower that knows of no leader, its Commit the base.
func TestNew(t *testing.T) {
	for stores := 1; stores <= maxStores; stores++ {
		for id := 1; id <= stores; id++ {
			g := mustNew(t, begin(id, stores))
			mustView(t, g, raft.View{Role: follower})
			mustVoters(t, g, upTo(stores)...)
			mustLog(t, g)
			mustRest(t, g, 0, 0, upTo(stores), "")
			mustSend(t, g)
			mustHaveChanged(t, g, raft.Change{})

			l := []api.Entry{noop(3), members(4, 1), change(4, "x")}
			s := grown(id, stores, 6, 10, 2, l...)
			s.Vote, s.Voters = stores, list(stores)
			g = mustNew(t, s)
			mustView(t, g, raft.View{Role: follower, Term: 6, Vote: stores, Commit: 10, Base: 10, Last: 13})
			mustVoters(t, g, 1)
			mustLog(t, g, l...)
			mustRest(t, g, 10, 2, list(stores), "then")
			mustSend(t, g)
			mustHaveChanged(t, g, raft.Change{})
			if e := g.Entries(0, 99); len(e) != 0 {
				t.Errorf("Entries: %s", shown(e))
			}
			mustLog(t, g, l...)
		}
	}
}

// turns is a way in which a Start is another one.
type turns struct {
	what string
	turn func(s *raft.Start)
}

// wrongs are all ways in which a Start may not be, that are refused ahead of what chapter 14
// says of logs. The Start is of three stores.
func wrongs() []turns {
	var l []turns
	add := func(what string, turn func(s *raft.Start)) { l = append(l, turns{what, turn}) }
	for _, n := range ints() {
		if n < 1 || n > maxStores {
			add(fmt.Sprint("Stores ", n), func(s *raft.Start) { s.Stores = n })
		}
		if n < 1 || n > 3 {
			add(fmt.Sprint("ID ", n), func(s *raft.Start) { s.ID = n })
			add(fmt.Sprint("Voters ", n), func(s *raft.Start) { s.Voters = list(n) })
		}
		if n < 1 || n > maxTicks {
			add(fmt.Sprint("Elect ", n), func(s *raft.Start) { s.Elect = n })
			add(fmt.Sprint("Beat ", n), func(s *raft.Start) { s.Beat = n })
		}
		if n < 0 || n > maxCount {
			add(fmt.Sprint("Term ", n), func(s *raft.Start) { s.Term, s.Entries = n, nil })
		}
		if n < 0 || n > 3 {
			add(fmt.Sprint("Vote ", n), func(s *raft.Start) { s.Vote = n })
		}
		if n > 3 {
			add(fmt.Sprint("a List of ", n), func(s *raft.Start) { s.Entries = append(s.Entries, members(1, n)) })
			add(fmt.Sprint("a first List of 1 and ", n), func(s *raft.Start) { s.Entries = append([]api.Entry{members(1, 1, n)}, s.Entries...) })
		}
	}
	for _, v := range [][]int{nil, {}, {0, 1}, {-1, 1}, {1, 1}, {2, 2}, {1, 2, 2}, {2, 1}, {3, 2, 1}, {1, 3, 2}, {1, 4}, {1, 2, 3, 4}, {3, 4, 5}, {1, 0}, {1, 2, 3, 3}} {
		add(fmt.Sprint("Voters ", v), func(s *raft.Start) { s.Voters = v })
	}
	return l
}

// P16.1: each thing of a Start, one beyond each of its ends.
func TestNewRefuses(t *testing.T) {
	for _, x := range wrongs() {
		s := grown(2, 3, 3, 0, 0, noop(1))
		x.turn(&s)
		if g, err := raft.New(s); err != api.ErrArg || g != nil {
			t.Errorf("%s: a member %v, %v", x.what, g != nil, err)
		}
	}
}

// P16.1: each thing of a Start at each of its ends.
func TestNewTakes(t *testing.T) {
	for _, turn := range []func(s *raft.Start){
		func(s *raft.Start) { s.ID, s.Stores, s.Voters, s.Vote = 1, 1, list(1), 1 },
		func(s *raft.Start) { s.ID, s.Stores, s.Voters, s.Vote = 5, 5, upTo(5), 5 },
		func(s *raft.Start) { s.ID = 1 },
		func(s *raft.Start) { s.ID = 3 },
		func(s *raft.Start) { s.Elect, s.Beat = 1, 1 },
		func(s *raft.Start) { s.Elect, s.Beat = maxTicks, 1 },
		func(s *raft.Start) { s.Elect, s.Beat = 1, maxTicks },
		func(s *raft.Start) { s.Elect, s.Beat = maxTicks, maxTicks },
		func(s *raft.Start) { s.Term, s.Entries = 0, nil },
		func(s *raft.Start) { s.Term, s.Vote, s.Entries = 0, 3, nil },
		func(s *raft.Start) { s.Term = maxCount },
		func(s *raft.Start) { s.Vote = 0 },
		func(s *raft.Start) { s.Vote = 3 },
		func(s *raft.Start) { s.Voters = list(1) },
		func(s *raft.Start) { s.Voters = list(3) },
		func(s *raft.Start) { s.Voters = list(1, 3) },
		func(s *raft.Start) { s.Entries = append(s.Entries, members(2, 3), members(3, 1, 2, 3)) },
		func(s *raft.Start) { s.Base, s.BaseTerm, s.Entries = maxCount, 3, nil },
		func(s *raft.Start) { s.Base, s.BaseTerm, s.Entries = maxCount-1, 3, noops(3) },
		func(s *raft.Start) { s.Term, s.BaseTerm, s.Entries = maxCount, maxCount, noops(maxCount) },
		func(s *raft.Start) { s.State = string(make([]byte, 1<<20)) },
		func(s *raft.Start) { s.Entries = noops(make([]int, 1)...)[:0] },
	} {
		s := grown(2, 3, 3, 0, 0, noop(1))
		turn(&s)
		b := mustBoth(t, s)
		b.mustBeAlike(t, "made")
		b.mustTell(t, "made")
		for range 20 {
			b.tick()
			b.mustBeAlike(t, "a tick later")
		}
	}
}

// P16.1: what chapter 14's New answers.
func TestNewRefusesLogs(t *testing.T) {
	for _, n := range ints() {
		if n >= 0 && n <= maxCount {
			continue
		}
		s := grown(2, 3, 3, 0, 0)
		s.Base = n
		mustNotNew(t, s, api.ErrArg)
		s = grown(2, 3, 3, 0, 0)
		s.BaseTerm = n
		mustNotNew(t, s, api.ErrArg)
	}
	for _, l := range [][]api.Entry{
		{{}}, {badEntry()}, {noop(0)}, {noop(-1)}, {noop(1), noop(3), noop(2)}, {members(1)}, {members(1, 2, 1)}, {members(1, 0, 1)},
		{{Term: 1, Kind: 1, Data: "x"}}, {{Term: 1, Kind: 1, List: list(1)}}, {{Term: 1, Kind: 2, List: list(1)}}, {{Term: 1, Kind: 3, Data: "x", List: list(1)}},
		{{Term: 1, Kind: 0}}, {{Term: 1, Kind: 4}}, {change(1, string(make([]byte, maxEntry+1)))}, {noop(1), {}},
	} {
		mustNotNew(t, grown(2, 3, 3, 0, 0, l...), api.ErrArg)
		mustNotNew(t, grown(2, 3, 3, maxCount, 0, l...), api.ErrArg) // and an index above MaxCount
	}
	mustNotNew(t, grown(2, 3, 3, 0, 2, noops(1, 2)...), api.ErrArg) // below the base's term
	mustNotNew(t, grown(2, 3, 3, maxCount, 1, noops(1)...), api.ErrExhausted)
	mustNotNew(t, grown(2, 3, 3, maxCount-1, 1, noops(1, 1)...), api.ErrExhausted)
	mustNew(t, grown(2, 3, 3, maxCount-2, 1, noops(1, 1)...))
}

// P16.1: the last's term is at most Term.
func TestNewRefusesLaterTerms(t *testing.T) {
	for term := range 5 {
		for last := range 7 {
			s, b := grown(2, 3, term, 4, 0), grown(2, 3, term, 4, last)
			if last > 0 {
				s.Entries = noops(1, last)
			}
			if last <= term {
				mustNew(t, s)
				mustNew(t, b)
			} else {
				mustNotNew(t, s, api.ErrArg)
				mustNotNew(t, b, api.ErrArg)
			}
		}
	}
	mustNotNew(t, grown(2, 3, maxCount-1, 4, 1, noops(maxCount)...), api.ErrArg)
}

// P16.1: the errors come in their order.
func TestNewErrorsInOrder(t *testing.T) {
	for _, x := range wrongs() {
		s := grown(2, 3, 3, maxCount, 0, noop(1)) // ErrExhausted by itself
		x.turn(&s)
		if len(s.Entries) > 0 {
			mustNotNew(t, s, api.ErrArg)
		}
	}
	mustNotNew(t, grown(2, 3, 3, maxCount, 0, noop(1)), api.ErrExhausted)
	mustNotNew(t, grown(2, 3, 3, maxCount, 0, noop(4)), api.ErrExhausted) // ahead of the last's term
	mustNotNew(t, grown(2, 3, 0, maxCount-1, 0, noops(1, 9)...), api.ErrExhausted)
	mustNotNew(t, grown(2, 3, 3, maxCount, 0, members(1, 4)), api.ErrArg) // behind a List above Stores
	mustNotNew(t, grown(2, 3, 3, maxCount, 0, noops(2, 1)...), api.ErrArg)
}

// P16.1: a member of each kind waits for Elect ticks, and one for each store ahead of it.
func TestPatience(t *testing.T) {
	for stores := 1; stores <= maxStores; stores++ {
		for id := 1; id <= stores; id++ {
			for _, elect := range []int{1, 2, 8, 100, maxTicks} {
				s := begin(id, stores)
				s.Elect = elect
				g := mustNew(t, s)
				ticks(g, elect+id-2)
				mustView(t, g, raft.View{Role: follower})
				mustSend(t, g)
				mustHaveChanged(t, g, raft.Change{})
				g.Tick()
				if v := g.View(); v.Term != 1 || v.Vote != id || v.Role == follower {
					t.Fatalf("%d of %d, Elect %d, behind %d ticks: %+v", id, stores, elect, elect+id-1, v)
				}
			}
		}
	}
}

// R4: nothing beside an error, whatever is wrong.
func TestNewTellsNoMemberBesideAnError(t *testing.T) {
	r := row(5)
	for range 20000 {
		s := r.start()
		wrong := one(&r, wrongs())
		if r.next(2) == 0 {
			wrong.turn(&s)
		}
		if r.next(4) == 0 {
			s.Entries = append(s.Entries, one(&r, []api.Entry{{}, badEntry(), noop(1), noop(maxCount), members(1, 9)}))
		}
		if r.next(6) == 0 {
			s.Base = one(&r, ints())
		}
		if g, err := raft.New(s); (err == api.OK) != (g != nil) {
			t.Fatalf("New(%s): a member %v, %v", shown(s), g != nil, err)
		}
	}
	if g, err := raft.New(raft.Start{}); g != nil || err != api.ErrArg {
		t.Error("of nothing:", g != nil, err)
	}
	if g, err := raft.New(raft.Start{ID: math.MinInt, Stores: math.MaxInt}); g != nil || err != api.ErrArg {
		t.Error("of anything:", g != nil, err)
	}
}

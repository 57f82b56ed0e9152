package raft_test

import (
	"fmt"
	"slices"
	"testing"

	"buttery/api"
	"buttery/ballot"
	"buttery/raft"
)

// noted is an entry that somebody's Commit came to, and the least term in which one did.
type noted struct {
	e    api.Entry
	term int
}

// group are members that are stepped together, and what was seen of them so far.
type group struct {
	t       *testing.T
	r       *row
	what    string
	begun   raft.Start
	members []*raft.Member // at the place store - 1
	laid    []raft.Start   // what each keeps, brought up to date by what Changed says
	kept    [][]raft.Start // of what each may be made anew
	was     []raft.View
	flights []api.Mail
	leads   map[int]int    // who led in a term
	agreed  map[int]noted  // what was up to somebody's Commit
	states  map[int]string // what all entries up to an index come to
	seen    map[string]int
}

// gathered is a group of members that are made alike.
func gathered(t *testing.T, r *row, what string, s raft.Start, seen map[string]int) *group {
	t.Helper()
	g := &group{t: t, r: r, what: what, begun: s, leads: map[int]int{}, agreed: map[int]noted{}, seen: seen}
	g.states = map[int]string{s.Base: s.State}
	for id := 1; id <= s.Stores; id++ {
		s.ID = id
		g.members = append(g.members, mustNew(t, s))
		g.laid = append(g.laid, s)
		g.kept = append(g.kept, []raft.Start{s})
		g.was = append(g.was, g.members[id-1].View())
	}
	return g
}

// startOf is of what a member could be made by now.
func (g *group) startOf(place int) raft.Start {
	m, s := g.members[place], g.begun
	v := m.View()
	s.ID, s.Term, s.Vote, s.Entries = place+1, v.Term, v.Vote, m.Log(0, maxCount)
	s.Base, s.BaseTerm, s.Voters, s.State = m.Snapshot()
	return s
}

// done looks at a member that did something: what it sent is under way, and of what it has by
// then it may be made anew.
func (g *group) done(place int) {
	g.t.Helper()
	l := g.members[place].Mails()
	g.flights = append(g.flights, l...)
	s := g.startOf(place)
	if len(l) > 0 || len(g.members) == 1 { // where nobody else is, nothing is ever sent, but what is agreed upon is kept
		g.kept[place] = nil
	}
	g.kept[place] = append(g.kept[place], s)
	g.mustKeep(place, s)
	g.mustHold(place, false)
}

// mustKeep asks that what Changed says is enough to know what must be kept.
func (g *group) mustKeep(place int, s raft.Start) {
	g.t.Helper()
	if g.r.next(3) == 0 {
		return // it is told the next time
	}
	d, c := &g.laid[place], g.members[place].Changed()
	if c.Hard {
		d.Term, d.Vote = s.Term, s.Vote
	}
	if c.Base {
		d.Entries = d.Entries[min(s.Base-d.Base, len(d.Entries)):]
		d.Base, d.BaseTerm, d.Voters, d.State = s.Base, s.BaseTerm, s.Voters, s.State
	}
	if c.From > 0 {
		if c.From <= d.Base || c.From > d.Base+len(d.Entries)+1 {
			g.t.Fatalf("%s: %d: Changed: %+v, %d entries behind %d are kept", g.what, place+1, c, len(d.Entries), d.Base)
		}
		d.Entries = append(slices.Clone(d.Entries[:c.From-d.Base-1]), s.Entries[c.From-s.Base-1:]...)
	}
	if d.Term != s.Term || d.Vote != s.Vote || d.Base != s.Base || d.BaseTerm != s.BaseTerm || d.State != s.State ||
		!slices.Equal(d.Voters, s.Voters) || !sameAll(d.Entries, s.Entries) {
		g.t.Fatalf("%s: %d keeps %s by Changed: %+v, and has %s", g.what, place+1, shown(*d), c, shown(s))
	}
}

// mustHold asks what must hold of a member, behind whatever it did.
func (g *group) mustHold(place int, anew bool) {
	g.t.Helper()
	id, v, was := place+1, g.members[place].View(), g.was[place]
	if !anew && (v.Commit < was.Commit || v.Term < was.Term || v.Base < was.Base) || v.Commit < v.Base || v.Commit > v.Last {
		g.t.Fatalf("%s: %d: %+v, was %+v", g.what, id, v, was)
	}
	g.was[place] = v
	g.mustAgree(place, v)
	if v.Role != leader {
		return
	}
	other, ok := g.leads[v.Term]
	if ok && other != id {
		g.t.Fatalf("%s: %d and %d led in the term %d", g.what, other, id, v.Term)
	}
	g.seen["led"] += count(!ok)
	g.leads[v.Term] = id
	g.mustHaveAll(id, v)
}

// mustAgree asks that what is up to a Commit is what was, and notes what is new.
func (g *group) mustAgree(place int, v raft.View) {
	g.t.Helper()
	m := g.members[place]
	for k, e := range m.Entries(v.Base, maxCount) {
		i := v.Base + 1 + k
		had, ok := g.agreed[i]
		if ok && !same(had.e, e) {
			g.t.Fatalf("%s: %d has %s at %d, but %s was agreed upon", g.what, place+1, shown(e), i, shown(had.e))
		}
		if !ok {
			g.agreed[i], g.states[i] = noted{e, v.Term}, chained(g.states[i-1], i, e)
			g.seen["agreed"]++
			g.seen["voters"] += count(e.Kind == 3)
		} else if v.Term < had.term {
			g.agreed[i] = noted{e, v.Term}
		}
	}
	base, term, l, state := m.Snapshot()
	if base == g.begun.Base {
		return
	}
	if had := g.agreed[base]; had.e.Term != term || state != g.states[base] || !slices.Equal(l, g.votersAt(base)) {
		g.t.Fatalf("%s: the base of %d: %d %d %v %q; agreed upon: %+v, %v, %q", g.what, place+1, base, term, l, state, had, g.votersAt(base), g.states[base])
	}
}

// chained is a text that tells an entry at an index, and what a text told.
func chained(s string, i int, e api.Entry) string {
	sum := uint64(len(s))
	for _, c := range []byte(fmt.Sprint(s, i, e.Term, e.Kind, e.Data, e.List)) {
		sum = sum*1099511628211 + uint64(c)
	}
	return fmt.Sprint(sum)
}

// votersAt are who votes by what was agreed upon up to an index.
func (g *group) votersAt(i int) []int {
	for ; i > g.begun.Base; i-- {
		if e := g.agreed[i].e; e.Kind == 3 {
			return e.List
		}
	}
	return g.begun.Voters
}

// mustHaveAll asks that a leader has all that was agreed upon in an elder term.
func (g *group) mustHaveAll(id int, v raft.View) {
	g.t.Helper()
	l := g.members[id-1].Log(v.Base, maxCount)
	for i, had := range g.agreed {
		if had.term < v.Term && i > v.Base && (i > v.Last || !same(l[i-v.Base-1], had.e)) {
			g.t.Fatalf("%s: %d leads in %d without %s, that was agreed upon in %d at %d", g.what, id, v.Term, shown(had.e), had.term, i)
		}
	}
}

// tick lets a member's tick pass.
func (g *group) tick(place int) {
	g.t.Helper()
	g.members[place].Tick()
	g.done(place)
}

// deliver lets a message that is under way come; it may stay under way, too.
func (g *group) deliver(i int, stays bool) {
	g.t.Helper()
	x := g.flights[i]
	if !stays {
		g.flights = slices.Delete(g.flights, i, i+1)
	}
	g.members[x.To-1].Step(x.From, x.Msg)
	g.seen["snaps"] += count(x.Msg.Kind == snap)
	g.done(x.To - 1)
}

// compact lets a member forget what is agreed upon, up to a drawn index.
func (g *group) compact(place int) {
	g.t.Helper()
	v := g.members[place].View()
	i := v.Base + g.r.next(v.Commit-v.Base+1)
	mustCompact(g.t, g.members[place], i, g.states[i], api.OK)
	g.done(place)
}

// anew makes a member of what it had.
func (g *group) anew(place int) {
	g.t.Helper()
	s := one(g.r, g.kept[place])
	if g.r.next(3) > 0 {
		s = g.kept[place][len(g.kept[place])-1]
	}
	g.members[place] = mustNew(g.t, s)
	g.laid[place], g.kept[place] = s, []raft.Start{s}
	g.seen["anew"]++
	g.mustHold(place, true)
}

// propose lets a leader propose something, if there is one: other voters too, if they may turn.
func (g *group) propose(turning bool) {
	g.t.Helper()
	place := g.r.next(len(g.members))
	for range g.members {
		if g.members[place].View().Role == leader {
			break
		}
		place = (place + 1) % len(g.members)
	}
	e := change(1, fmt.Sprint("p", g.r.next(100000)))
	if turning && g.r.next(2) == 0 {
		l, err := ballot.Turn(g.members[place].Voters(), 1+g.r.next(len(g.members)))
		if err == api.OK {
			e = members(1, l...)
		}
	}
	_, err := g.members[place].Propose(e.Kind, e.Data, e.List)
	if err != api.OK && err != api.ErrLeader && err != api.ErrBusy {
		g.t.Fatalf("%s: Propose: %v", g.what, err)
	}
	g.done(place)
}

// burst proposes more than one message has room for, to a member that perhaps leads alone.
func (g *group) burst(place int) {
	g.t.Helper()
	for range g.r.next(2 * maxSend) {
		if _, err := g.members[place].Propose(api.Change, fmt.Sprint("b", g.r.next(100000)), nil); err != api.OK {
			return
		}
		g.done(place)
	}
}

// step does one drawn thing.
func (g *group) step(turning bool) {
	g.t.Helper()
	r, n := g.r, len(g.flights)
	place := r.next(len(g.members))
	switch k := r.next(100); {
	case k < 50 && n > 0:
		i := r.next(n)
		if r.next(2) == 0 {
			i = r.next(min(n, 3))
		}
		g.deliver(i, r.next(8) == 0)
	case k < 55 && n > 0:
		i := r.next(n)
		g.flights = slices.Delete(g.flights, i, i+1)
	case k < 60:
		g.propose(turning)
	case k < 63:
		g.compact(place)
	case k < 64:
		g.anew(place)
	case k < 70:
		for range r.next(g.begun.Elect + len(g.members)) {
			g.tick(place)
		}
	case k < 72:
		g.round(upTo(len(g.members)))
	default:
		g.tick(place)
	}
	if len(g.flights) > 60 {
		g.flights = slices.Delete(g.flights, 10, 10+r.next(40))
	}
}

// round lets some members tick once, by rising numbers; then all messages among them come, the
// eldest first, till there is none. Others are lost.
func (g *group) round(l []int) {
	g.t.Helper()
	for _, store := range l {
		g.tick(store - 1)
	}
	for came := 0; len(g.flights) > 0; came++ {
		if came > 10000 {
			g.t.Fatalf("%s: there is no end of messages: %s", g.what, shown(g.flights))
		}
		if x := g.flights[0]; !slices.Contains(l, x.To) || !slices.Contains(l, x.From) {
			g.flights = g.flights[1:]
			continue
		}
		g.deliver(0, false)
	}
}

// beginning is a drawn beginning of a group.
func (r *row) beginning() raft.Start {
	stores := 1 + r.next(maxStores)
	s := begin(1, stores)
	s.Elect, s.Beat = 1+r.next(12), 1+r.next(6)
	s.Voters = one(r, [][]int{upTo(stores), upTo(stores), r.voters(stores)})
	if r.next(4) == 0 {
		s.Term, s.Base = 1+r.next(3), 1+r.next(20)
		s.BaseTerm, s.State = 1+r.next(s.Term), "begun"
	}
	return s
}

// P16.5, P16.6: drawn groups, whose messages are late, lost, doubled and turned about, and whose
// members are made anew: no two lead in one term, what was agreed upon stays, and who leads has it.
func TestDrawnGroups(t *testing.T) {
	seen := map[string]int{}
	for seed := range 1500 {
		r := row(seed)
		g := gathered(t, &r, fmt.Sprint("seed ", seed), r.beginning(), seen)
		for step := range 250 {
			g.what = fmt.Sprintf("seed %d, step %d", seed, step)
			g.step(true)
		}
	}
	mustHaveSeen(t, seen, map[string]int{"led": 3000, "agreed": 20000, "voters": 1000, "snaps": 300, "anew": 2000})
}

// mustHaveSeen asks that things were seen often enough, that what was asked of them says something.
func mustHaveSeen(t *testing.T, seen, least map[string]int) {
	t.Helper()
	for what, n := range least {
		if seen[what] < n {
			t.Errorf("%s: %d times", what, seen[what])
		}
	}
}

// P16.5, P16.6: the same where members mostly tick and hear in turn, so that a lot is agreed upon
// and forgotten.
func TestBusyGroups(t *testing.T) {
	seen := map[string]int{}
	for seed := range 150 {
		r := row(seed)
		s := r.beginning()
		g := gathered(t, &r, fmt.Sprint("seed ", seed), s, seen)
		for step := range 120 {
			g.what = fmt.Sprintf("seed %d, step %d", seed, step)
			l := subset(1+r.next(1<<s.Stores-1), s.Stores)
			for range 1 + r.next(s.Elect+s.Stores) {
				g.round(l)
				g.propose(true)
			}
			for range r.next(6) {
				g.step(true)
			}
			g.burst(r.next(s.Stores))
			g.compact(r.next(s.Stores))
		}
	}
	mustHaveSeen(t, seen, map[string]int{"led": 1500, "agreed": 20000, "voters": 5000, "snaps": 1000, "anew": 300})
}

// leader is who leads among some members; 0, if nobody does, or more than one.
func (g *group) leader(l []int) int {
	found := 0
	for _, store := range l {
		if g.members[store-1].View().Role != leader {
			continue
		}
		if found > 0 {
			return 0
		}
		found = store
	}
	return found
}

// mustAgreeOn proposes to a leader, and asks that all of some members know that it is agreed upon
// behind Beat and two rounds.
func (g *group) mustAgreeOn(store int, l []int) {
	g.t.Helper()
	i, err := g.members[store-1].Propose(api.Change, "in step", nil)
	if err != api.OK {
		g.t.Fatalf("%s: Propose at %d: %v", g.what, store, err)
	}
	g.done(store - 1)
	for range g.begun.Beat + 2 {
		g.round(l)
	}
	for _, s := range l {
		if v := g.members[s-1].View(); v.Commit < i {
			g.t.Fatalf("%s: what was proposed to %d stands at %d; %d: %+v", g.what, store, i, s, v)
		}
	}
}

// steppedAbout is a drawn group, stepped in any way without Members, and some of its members; none,
// if those drawn are not more than half of the voters.
func steppedAbout(t *testing.T, seed int, seen map[string]int) (*group, []int) {
	t.Helper()
	r := row(seed)
	s := r.beginning()
	s.Elect = s.Stores + 1 + r.next(12)
	s.Beat = 1 + r.next(s.Elect-1)
	g := gathered(t, &r, fmt.Sprint("seed ", seed), s, seen)
	for step := range r.next(300) {
		g.what = fmt.Sprintf("seed %d, step %d", seed, step)
		g.step(false)
	}
	g.flights = nil
	l := subset(1+r.next(1<<s.Stores-1), s.Stores)
	if !ballot.Won(s.Voters, l) {
		return g, nil
	}
	return g, l
}

// P16.7: more than half of the voters in rounds, the others still: one of them leads in time, and
// goes on to lead; what is proposed to it then is agreed upon in time.
func TestInStep(t *testing.T) {
	seen := map[string]int{}
	for seed := range 1500 {
		g, l := steppedAbout(t, seed, seen)
		if l == nil {
			continue
		}
		g.what = fmt.Sprintf("seed %d, %v of %v in step", seed, l, g.begun.Voters)
		seen["in step"]++
		patience := g.begun.Elect + l[len(l)-1] - 1
		for range 6*patience + g.begun.Beat + 10 {
			g.round(l)
		}
		store := g.leader(l)
		if store == 0 {
			t.Fatalf("%s: nobody leads, or more than one: %+v", g.what, g.was)
		}
		was := g.members[store-1].View()
		for range 6 {
			g.mustAgreeOn(store, l)
			for range 1 + g.r.next(patience) {
				g.round(l)
			}
			if v := g.members[store-1].View(); g.leader(l) != store || v.Term != was.Term {
				t.Fatalf("%s: %d led: %+v, and does not go on: %+v", g.what, store, was, g.was)
			}
		}
	}
	mustHaveSeen(t, seen, map[string]int{"in step": 500, "snaps": 100, "anew": 1000})
}

// P16.7: from the very beginning the one with the least patience leads, in its first term.
func TestInStepFromTheBeginning(t *testing.T) {
	for stores := 1; stores <= maxStores; stores++ {
		r := row(stores)
		g := gathered(t, &r, fmt.Sprint(stores, " stores"), begin(1, stores), map[string]int{})
		for range 8 {
			if g.leader(upTo(stores)) != 0 {
				t.Fatalf("%s: one leads too early", g.what)
			}
			g.round(upTo(stores))
		}
		if g.leader(upTo(stores)) != 1 {
			t.Fatalf("%s: %+v", g.what, g.was)
		}
		g.mustAgreeOn(1, upTo(stores))
	}
}

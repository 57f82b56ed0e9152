package raft_test

import (
	"fmt"
	"math"
	"slices"
	"strings"
	"testing"

	"buttery/api"
	"buttery/raft"
)

// everyLook does every call that looks at a member, and is what they told.
func everyLook(g *raft.Member, i, j int) string {
	base, term, voters, state := g.Snapshot()
	return fmt.Sprint(g.View(), g.Voters(), g.Log(i, j), g.Entries(i, j), base, term, voters, len(state))
}

// everyCall does every call, with two numbers for all that is a number, and is what they told.
func everyCall(g *raft.Member, i, j int, e api.Entry, x api.Msg) string {
	s := everyLook(g, i, j)
	g.Tick()
	g.Step(i, x)
	g.Step(j, x)
	index, err := g.Propose(e.Kind, e.Data, e.List)
	s += fmt.Sprint(index, err, g.Compact(i, "i"), g.Compact(j, "j"))
	c := g.Copy()
	c.Tick()
	c.Step(1, x)
	c.Step(2, x)
	s += everyLook(c, j, i) + letters(g.Mails()) + fmt.Sprint(g.Changed()) + letters(c.Mails()) + fmt.Sprint(c.Changed())
	return s
}

// anyMessages are messages of all kinds, most of which may not be.
func anyMessages() []api.Msg {
	l := []api.Msg{{}, {Kind: 255}, {Kind: 3}, {Kind: 5}}
	for kind := uint8(0); kind < 7; kind++ {
		for _, n := range ints() {
			l = append(l,
				api.Msg{Kind: kind, Term: n, Index: n, PrevTerm: n, Commit: n, Entries: []api.Entry{noop(n)}, List: list(n), Granted: true},
				api.Msg{Kind: kind, Term: maxCount, Index: n, PrevTerm: 1, Commit: n, List: list(1, 2), State: "x"},
				api.Msg{Kind: kind, Term: maxCount, Index: n, PrevTerm: 0, Commit: maxCount, Entries: []api.Entry{noop(1), members(2, 1), change(3, "x")}, List: list(2), Granted: true},
				api.Msg{Kind: kind, Term: 9, Index: 1, PrevTerm: n, Entries: []api.Entry{badEntry(), {}, members(4, n)}, List: list(2, n)})
		}
	}
	return l
}

// R1: no call panics, whatever it is handed, and all end.
func TestWhateverIsHandedIn(t *testing.T) {
	messages := anyMessages()
	for what, b := range stands(t) {
		at := 0
		for _, i := range ints() {
			for _, j := range ints() {
				x := messages[at%len(messages)]
				e := wrongEntries()[at%len(wrongEntries())]
				everyCall(b.g.Copy(), i, j, e, x)
				everyCall(b.g, i, j, e, x)
				at++
			}
		}
		for _, x := range messages {
			for from := range 7 {
				b.g.Step(from, x)
			}
			b.g.Tick()
		}
		everyLook(b.g, 0, 99)
		if v := b.g.View(); v.Commit < v.Base || v.Last < v.Commit {
			t.Errorf("%s: %+v", what, v)
		}
	}
}

// R1: members of drawn beginnings, any messages.
func TestAnyMessages(t *testing.T) {
	r := row(17)
	messages := anyMessages()
	for range 3000 {
		b := mustBoth(t, r.start())
		for range 30 {
			switch r.next(3) {
			case 0:
				b.tick()
			case 1:
				b.step(r.next(8)-1, one(&r, messages))
			default:
				b.step(r.message(b.m))
			}
		}
		b.mustBeAlike(t, "behind any messages")
	}
}

// R1: long lists and texts.
func TestLongLists(t *testing.T) {
	many := make([]api.Entry, 1<<18)
	for i := range many {
		many[i] = noop(1)
	}
	g := mustNew(t, grown(2, 3, 1, 0, 0, many...))
	mustView(t, g, raft.View{Role: follower, Term: 1, Last: len(many)})
	g.Step(1, laid(1, len(many), 1, maxCount, many...))
	mustView(t, g, raft.View{Role: follower, Term: 1, Leader: 1, Commit: 2 * len(many), Last: 2 * len(many)})
	mustCompact(t, g, 2*len(many)-3, string(make([]byte, 1<<24)), api.OK)
	mustLog(t, g, many[:3]...)
	ticks(g, 9)
	g.Step(3, voted(2, true))
	g.Step(1, told(2, false, 0))
	g.Step(1, rested(3, maxCount, 3, string(make([]byte, 1<<24)), make([]int, 1<<20)...)) // no voters
	if v := g.View(); v.Role != leader || v.Last != 2*len(many)+1 {
		t.Errorf("%+v", v)
	}
	_, err := g.Propose(3, "", make([]int, 1<<20))
	if err != api.ErrArg {
		t.Error(err)
	}
}

// A nil member: nothing, zeros, none, ErrNil.
func TestNil(t *testing.T) {
	var g *raft.Member
	for _, i := range ints() {
		for _, x := range anyMessages()[:40] {
			g.Tick()
			g.Step(i, x)
			if index, err := g.Propose(1, "", nil); index != 0 || err != api.ErrNil {
				t.Errorf("Propose: %d, %v", index, err)
			}
			if index, err := g.Propose(99, "x", list(i)); index != 0 || err != api.ErrNil {
				t.Errorf("Propose: %d, %v", index, err)
			}
			if err := g.Compact(i, "x"); err != api.ErrNil {
				t.Errorf("Compact(%d): %v", i, err)
			}
		}
		if l := g.Log(i, 9); len(l) != 0 {
			t.Errorf("Log: %v", l)
		}
		if l := g.Entries(i, 9); len(l) != 0 {
			t.Errorf("Entries: %v", l)
		}
	}
	mustSend(t, g)
	mustHaveChanged(t, g, raft.Change{})
	mustView(t, g, raft.View{})
	mustVoters(t, g)
	mustRest(t, g, 0, 0, nil, "")
	if g.Copy() != nil {
		t.Error("a copy of nil")
	}
}

// R1: members that were not made by the package panic nowhere, nor those that were copied by the
// language's own copying.
func TestMembersMadeOtherwise(t *testing.T) {
	messages := anyMessages()
	for at, x := range messages {
		for k, i := range ints() {
			everyCall(new(raft.Member), i, ints()[at%len(ints())], wrongEntries()[k%20], x)
		}
	}
	for _, b := range stands(t) {
		h := *b.g
		for at, x := range messages {
			i, j := ints()[at%len(ints())], at%7
			everyCall(&h, i, j, noop(1), x)
			everyCall(b.g, j, i, change(1, "x"), x)
			h.Step(1+at%3, laid(h.View().Term, h.View().Last, 0, maxCount, noop(maxCount)))
			b.g.Compact(b.g.View().Commit, "cut")
			h.Compact(h.View().Commit, "cut")
		}
	}
}

// R2: members do not see one another; the same calls tell the same again.
func TestMembersAreApart(t *testing.T) {
	play := func(other func()) string {
		r := row(29)
		b := mustBoth(t, begin(2, 3))
		s := ""
		for range 300 {
			other()
			r.play(t, b)
			s += everyLook(b.g, 0, 99) + letters(b.g.Mails()) + fmt.Sprint(b.g.Changed())
		}
		return s
	}
	want := play(func() {})
	r := row(31)
	b := mustBoth(t, begin(1, 3))
	for range 3 {
		if play(func() { r.play(t, b) }) != want {
			t.Fatal("another answer")
		}
	}
}

// handed is a list with room behind its end, where other things stand, in it and in its Lists.
func handed(l []api.Entry) []api.Entry {
	l = roomy(l, noop(77), members(78, 1, 2))
	for i, e := range l {
		l[i].List = roomy(e.List, 4, 5, 5, 5)
	}
	return l
}

// mustBeAsHanded asks that nothing of what was handed in was changed, behind its ends neither.
func mustBeAsHanded(t *testing.T, what string, l, want []api.Entry) {
	t.Helper()
	if !sameAll(whole(l)[:len(l)+2], append(cloned(want), noop(77), members(78, 1, 2))) {
		t.Fatalf("%s changed %s: %s", what, shown(want), shown(whole(l)))
	}
	for i, e := range l {
		if n := len(e.List); !slices.Equal(whole(e.List)[:n+4], append(slices.Clone(want[i].List), 4, 5, 5, 5)) {
			t.Fatalf("%s changed the List of %s: %v", what, shown(want[i]), whole(e.List))
		}
	}
}

// mustBeNumbers asks the same of a list of numbers, with 4 5 5 5 behind it.
func mustBeNumbers(t *testing.T, what string, l, want []int) {
	t.Helper()
	if !slices.Equal(whole(l)[:len(l)+4], append(slices.Clone(want), 4, 5, 5, 5)) {
		t.Fatalf("%s changed %v: %v", what, want, whole(l))
	}
}

// R3: what is handed in is not changed, not read beyond its end, and not kept.
func TestHandedInIsNotKept(t *testing.T) {
	l := []api.Entry{members(2, 1, 2, 3), noop(2), members(2, 1, 2), change(3, "x"), members(3, 1, 2, 3)}
	for n := range len(l) + 1 {
		s := grown(1, 3, 4, 6, 2, l[:n]...)
		want := look(mustNew(t, s))
		entries, voters := handed(l[:n]), roomy(upTo(3), 4, 5, 5, 5)
		s.Entries, s.Voters = entries, voters
		g := mustNew(t, s)
		mustBeAsHanded(t, "New", entries, l[:n])
		mustBeNumbers(t, "New", voters, upTo(3))
		spoilEntries(entries)
		spoil(voters, -7)
		mustBeAs(t, "made", g, want)

		g = mustNew(t, grown(1, 3, 4, 6, 2))
		g.Step(2, laid(4, 6, 2, 0, l[:n]...))
		want = look(g)
		g = mustNew(t, grown(1, 3, 4, 6, 2))
		entries = handed(l[:n])
		g.Step(2, laid(4, 6, 2, 0, entries...))
		mustBeAsHanded(t, "an Append", entries, l[:n])
		spoilEntries(entries)
		mustBeAs(t, "merged", g, want)
	}
	g := mustNew(t, grown(1, 3, 4, 6, 2))
	voters := roomy(list(2, 3), 4, 5, 5, 5)
	g.Step(2, rested(4, 9, 2, "x", voters...))
	mustBeNumbers(t, "a Snap", voters, list(2, 3))
	spoil(voters, -7)
	mustRest(t, g, 9, 2, list(2, 3), "x")

	g = leading(t, grown(1, 3, 4, 6, 2))
	g.Step(2, told(5, true, 7))
	voters = roomy(list(1, 2), 4, 5, 5, 5)
	mustPropose(t, g, members(0, voters...), 8)
	mustBeNumbers(t, "Propose", voters, list(1, 2))
	spoil(voters, -7)
	mustVoters(t, g, 1, 2)
	mustLog(t, g, noop(5), members(5, 1, 2))
}

// R3: what is refused is not changed, either.
func TestRefusedIsNotChanged(t *testing.T) {
	for _, l := range [][]api.Entry{{noop(3), noop(1)}, {members(3, 3, 1), noop(3)}, {members(1, 1, 2), badEntry()}, {members(1, 9)}} {
		x := handed(l)
		s := grown(1, 3, 4, 6, 0)
		s.Entries = x
		mustNotNew(t, s, api.ErrArg)
		g := mustNew(t, grown(1, 3, 4, 6, 0))
		was := look(g)
		g.Step(2, laid(4, 6, 0, 0, x...))
		mustBeAs(t, "refused", g, was)
		g.Propose(3, "", x[0].List)
		leading(t, grown(1, 3, 3, 6, 0)).Propose(3, "", x[0].List)
		mustBeAsHanded(t, "a refusal", x, l)
	}
	voters := roomy(list(3, 1), 4, 5, 5, 5)
	s := begin(1, 3)
	s.Voters = voters
	mustNotNew(t, s, api.ErrArg)
	mustNew(t, begin(1, 3)).Step(2, rested(4, 9, 2, "x", voters...))
	mustBeNumbers(t, "a refusal", voters, list(3, 1))
}

// R3: what is told is new memory, its spare room too: writing there changes nothing that is told
// later, of the member or of its copies, nor what was told before.
func TestToldIsNew(t *testing.T) {
	for what, b := range stands(t) {
		ticks(b.g, 2)
		c := b.g.Copy()
		was := look(b.g)
		for range 2 {
			log, other := b.g.Log(0, 99), b.g.Log(0, 99)
			spoilEntries(log)
			if !sameAll(other, was.log) {
				t.Fatalf("%s: Log twice: %s", what, shown(other))
			}
			spoilEntries(b.g.Log(b.m.base+1, 2))
			spoilEntries(b.g.Entries(0, 99))
			voters := b.g.Voters()
			spoil(b.g.Voters(), -7)
			_, _, first, _ := b.g.Snapshot()
			_, _, second, _ := b.g.Snapshot()
			spoil(first, -7)
			if !slices.Equal(voters, was.voters) || !slices.Equal(second, was.base.Voters) {
				t.Fatalf("%s: Voters: %v, the base's: %v", what, voters, second)
			}
			mustBeAs(t, what, b.g, was)
			mustBeAs(t, what, c, was)
		}
		spoilMails(b.g.Copy().Mails())
		spoilMails(b.g.Copy().Mails())
		mustBeAs(t, what, b.g, was)
		spoilMails(c.Mails())
		mustBeAs(t, what, b.g, was)
		spoilMails(b.g.Mails())
		was.mails = nil
		was.waited = ""
		now := look(b.g)
		now.waited = ""
		if fmt.Sprint(now) != fmt.Sprint(was) {
			t.Fatalf("%s: %s, was %s", what, shown(now), shown(was))
		}
	}
}

// R3: what is written over in mails changes none that come later, of the member or of its copies,
// nor the others of one answer.
func TestMailsShareNothing(t *testing.T) {
	g := leading(t, grown(1, 5, 4, 6, 2, members(3, 1, 2, 3, 4, 5), members(4, 1, 2, 3, 4)))
	for from, index := range map[int]int{2: 7, 3: 6, 4: 0, 5: 0} { // entries to 2 and 3, the base to the others
		g.Step(from, told(5, false, index))
	}
	forget(g)
	ticks(g, 2)
	once := letters(g.Copy().Mails())
	ticks(g, 2)
	c := g.Copy()
	want := letters(c.Copy().Mails())
	many := len(c.Copy().Mails())
	if want != once+once || many != 8 {
		t.Fatal(want)
	}
	for _, x := range []*raft.Member{g, c} {
		for i := range many {
			l := x.Copy().Mails()
			spoilMails(l[i : i+1 : i+1])
			for k := range l {
				if one := letters(l[k : k+1]); k != i && !strings.Contains(want, one) {
					t.Fatalf("%d was spoilt, %d is %s", i, k, one)
				}
			}
		}
		if again := letters(x.Copy().Mails()); again != want {
			t.Fatalf("what a copy told was spoilt: %s\nwant %s", again, want)
		}
	}
	spoilMails(g.Mails())
	if l := letters(c.Mails()); l != want {
		t.Fatalf("what it told was spoilt, its copy tells %s\nwant %s", l, want)
	}
	for _, x := range []*raft.Member{g, c} {
		ticks(x, 2)
		if l := letters(x.Mails()); l != once {
			t.Fatalf("gone on: %s\nwant %s", l, once)
		}
		mustLog(t, x, members(3, 1, 2, 3, 4, 5), members(4, 1, 2, 3, 4), noop(5))
		mustRest(t, x, 6, 2, upTo(5), "then")
	}
}

// R3: a message that was sent may be handed to another member, and spoilt, and handed on.
func TestMessagesGoBetweenMembers(t *testing.T) {
	a, b, c := leading(t, begin(1, 3)), mustNew(t, begin(2, 3)), mustNew(t, begin(3, 3))
	a.Step(2, told(1, true, 1))
	mustPropose(t, a, members(0, 1, 2), 2)
	for _, x := range a.Mails() {
		if x.To == 2 {
			b.Step(1, laid(1, 0, 0, 0, noop(1)))
			b.Step(x.From, x.Msg)
		} else {
			c.Step(x.From, x.Msg)
		}
		spoilMails([]api.Mail{x})
	}
	for _, g := range []*raft.Member{a, b, c} {
		mustVoters(t, g, 1, 2)
		mustLog(t, g, noop(1), members(1, 1, 2))
	}
}

// R6: an empty list is as good as none.
func TestEmptyLists(t *testing.T) {
	for _, empty := range [][]int{nil, {}, list(1, 2)[:0]} {
		s := begin(1, 3)
		s.Entries = []api.Entry{{Term: 1, Kind: 1, List: empty}, {Term: 1, Kind: 2, List: empty}}
		s.Term = 1
		g := leading(t, s)
		g.Step(2, laid(9, 3, 2, 0, api.Entry{Term: 3, Kind: 1, List: empty}))
		mustLog(t, g, noop(1), change(1, ""), noop(2), noop(3))
		g = leading(t, s)
		if i, err := g.Propose(2, "x", empty); i != 4 || err != api.OK {
			t.Error(i, err)
		}
		if i, err := g.Propose(3, "", empty); i != 0 || err != api.ErrArg {
			t.Error(i, err)
		}
		s.Voters = empty
		mustNotNew(t, s, api.ErrArg)
	}
	s := begin(1, 3)
	s.Entries = []api.Entry{}
	mustNew(t, s)
	if l := mustNew(t, s).Log(math.MinInt, math.MaxInt); len(l) != 0 {
		t.Error(l)
	}
}

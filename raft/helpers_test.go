package raft_test

import (
	"fmt"
	"math"
	"slices"
	"strings"
	"testing"

	"buttery/api"
	"buttery/msg"
	"buttery/raft"
)

// The document's numbers, written out.
const (
	maxCount  = 2147483647
	maxStores = 5
	maxTicks  = 1000
	maxEntry  = 256
	maxSend   = 8

	follower, candidate, leader = 1, 2, 3

	voteAsk, voteTell, appendAsk, appendTell, snap = 1, 2, 3, 4, 5
)

// past is the number behind maxCount; where an int has 32 bits, the least one there is.
func past() int {
	n := maxCount
	n++
	return n
}

// ints are numbers of all kinds.
func ints() []int {
	return []int{math.MinInt, math.MinInt + 1, math.MinInt32, -2, -1, 0, 1, 2, 3, 4, 5, 6, 7, 1000, 1001, maxCount - 1, maxCount, past(), math.MaxInt - 1, math.MaxInt}
}

// noop, change and members are entries of each Kind.
func noop(term int) api.Entry                 { return api.Entry{Term: term, Kind: 1} }
func change(term int, data string) api.Entry  { return api.Entry{Term: term, Kind: 2, Data: data} }
func members(term int, list ...int) api.Entry { return api.Entry{Term: term, Kind: 3, List: list} }

// noops are Noops of these terms.
func noops(terms ...int) []api.Entry {
	var l []api.Entry
	for _, term := range terms {
		l = append(l, noop(term))
	}
	return l
}

// list is a list of these numbers.
func list(l ...int) []int { return l }

// upTo are the numbers from 1 on up to another one.
func upTo(n int) []int {
	var l []int
	for i := range n {
		l = append(l, i+1)
	}
	return l
}

// begin is a member of a group at its very beginning.
func begin(id, stores int) raft.Start {
	return raft.Start{ID: id, Stores: stores, Elect: 8, Beat: 2, Voters: upTo(stores)}
}

// grown is a member of a group that has been for a while.
func grown(id, stores, term, base, baseTerm int, l ...api.Entry) raft.Start {
	s := begin(id, stores)
	s.Term, s.Base, s.BaseTerm, s.State, s.Entries = term, base, baseTerm, "then", l
	return s
}

// shown is anything as a text, cut where it is long.
func shown(x any) string {
	s := strings.ReplaceAll(fmt.Sprintf("%+v", x), "api.", "")
	if l, ok := x.([]api.Mail); ok {
		s = letters(l)
	}
	if len(s) > 1500 {
		return s[:1500] + " .."
	}
	return s
}

// letters are mails as a text.
func letters(l []api.Mail) string {
	var b strings.Builder
	for _, x := range l {
		m := x.Msg
		fmt.Fprintf(&b, "%d to %d: {Kind %d Term %d Index %d PrevTerm %d Commit %d Granted %v Entries %v List %v State %q}; ", x.From, x.To, m.Kind, m.Term, m.Index, m.PrevTerm, m.Commit, m.Granted, m.Entries, m.List, m.State)
	}
	return b.String()
}

// same says whether two entries are alike.
func same(a, b api.Entry) bool {
	return a.Term == b.Term && a.Kind == b.Kind && a.Data == b.Data && slices.Equal(a.List, b.List)
}

// sameAll says whether two lists of entries are alike.
func sameAll(a, b []api.Entry) bool { return slices.EqualFunc(a, b, same) }

// sameMails says whether two lists of mails are alike.
func sameMails(a, b []api.Mail) bool {
	return slices.EqualFunc(a, b, func(x, y api.Mail) bool {
		return x.From == y.From && x.To == y.To && msg.Same(x.Msg, y.Msg)
	})
}

// cloned are entries in memory of their own.
func cloned(l []api.Entry) []api.Entry {
	c := slices.Clone(l)
	for i, e := range c {
		c[i].List = slices.Clone(e.List)
	}
	return c
}

// roomy is a list behind whose end other things stand.
func roomy[T any](l []T, behind ...T) []T { return append(slices.Clone(l), behind...)[:len(l)] }

// whole is all that a list's memory has, also behind its end.
func whole[T any](l []T) []T { return l[:cap(l)] }

// spoil writes over a list, adds to it, and writes over what stands behind its end.
func spoil[T any](l []T, bad T) {
	_ = append(l, bad)
	for i := range whole(l) {
		whole(l)[i] = bad
	}
}

// badEntry is an entry that may not be.
func badEntry() api.Entry { return api.Entry{Term: -9, Kind: 9, Data: "bad", List: []int{9, 9, 9}} }

// spoilEntries spoils entries and their lists.
func spoilEntries(l []api.Entry) {
	for _, e := range l {
		spoil(e.List, -9)
	}
	spoil(l, badEntry())
}

// spoilMails spoils mails and all lists in them.
func spoilMails(l []api.Mail) {
	for _, x := range l {
		spoilEntries(x.Msg.Entries)
		spoil(x.Msg.List, -9)
	}
	spoil(l, api.Mail{From: -9, To: -9, Msg: api.Msg{Kind: 99}})
}

// mustNew is a member.
func mustNew(t *testing.T, s raft.Start) *raft.Member {
	t.Helper()
	g, err := raft.New(s)
	if err != api.OK || g == nil {
		t.Fatalf("New(%s): a member %v, %v", shown(s), g != nil, err)
	}
	return g
}

// mustNotNew asks that there is no such member.
func mustNotNew(t *testing.T, s raft.Start, want api.Errno) {
	t.Helper()
	if g, err := raft.New(s); err != want || g != nil {
		t.Fatalf("New(%s): a member %v, %v, want %v", shown(s), g != nil, err, want)
	}
}

// mustPropose proposes, and asks for the index.
func mustPropose(t *testing.T, g *raft.Member, e api.Entry, want int) {
	t.Helper()
	if i, err := g.Propose(e.Kind, e.Data, e.List); err != api.OK || i != want {
		t.Fatalf("Propose(%s): %d, %v, want %d", shown(e), i, err, want)
	}
}

// mustNotPropose asks that an entry is refused, and that nothing is changed or sent.
func mustNotPropose(t *testing.T, g *raft.Member, e api.Entry, want api.Errno) {
	t.Helper()
	was := look(g)
	if i, err := g.Propose(e.Kind, e.Data, e.List); err != want || i != 0 {
		t.Fatalf("Propose(%s): %d, %v, want %v", shown(e), i, err, want)
	}
	mustBeAs(t, "refused", g, was)
}

// mustCompact compacts, and asks what is answered.
func mustCompact(t *testing.T, g *raft.Member, i int, state string, want api.Errno) {
	t.Helper()
	was := look(g)
	if err := g.Compact(i, state); err != want {
		t.Fatalf("Compact(%d): %v, want %v", i, err, want)
	}
	if want != api.OK {
		mustBeAs(t, "refused", g, was)
	}
}

// mustSend asks for all mails since they were asked for last.
func mustSend(t *testing.T, g *raft.Member, want ...api.Mail) {
	t.Helper()
	if l := g.Mails(); !sameMails(l, want) {
		t.Fatalf("Mails: %s\nwant %s", shown(l), shown(want))
	}
	if l := g.Mails(); len(l) != 0 {
		t.Fatalf("Mails, asked again: %s", shown(l))
	}
}

// mustHaveChanged asks what must be kept.
func mustHaveChanged(t *testing.T, g *raft.Member, want raft.Change) {
	t.Helper()
	if c := g.Changed(); c != want {
		t.Fatalf("Changed: %+v, want %+v", c, want)
	}
	if c := g.Changed(); c != (raft.Change{}) {
		t.Fatalf("Changed, asked again: %+v", c)
	}
}

// mustView asks how a member stands.
func mustView(t *testing.T, g *raft.Member, want raft.View) {
	t.Helper()
	if v := g.View(); v != want {
		t.Fatalf("View: %+v, want %+v", v, want)
	}
}

// mustVoters asks who votes.
func mustVoters(t *testing.T, g *raft.Member, want ...int) {
	t.Helper()
	if l := g.Voters(); !slices.Equal(l, want) {
		t.Fatalf("Voters: %v, want %v", l, want)
	}
}

// mustLog asks for the whole log.
func mustLog(t *testing.T, g *raft.Member, want ...api.Entry) {
	t.Helper()
	if l := g.Log(0, maxCount); !sameAll(l, want) {
		t.Fatalf("Log: %s, want %s", shown(l), shown(want))
	}
}

// mustRest asks for the base.
func mustRest(t *testing.T, g *raft.Member, base, term int, voters []int, state string) {
	t.Helper()
	i, x, l, s := g.Snapshot()
	if i != base || x != term || !slices.Equal(l, voters) || s != state {
		t.Fatalf("Snapshot: %d %d %v %q, want %d %d %v %q", i, x, l, s, base, term, voters, state)
	}
}

// sight is all that can be seen of a member.
type sight struct {
	view    raft.View
	voters  []int
	log     []api.Entry
	base    raft.Start
	mails   []api.Mail
	changed raft.Change
	waited  string // what comes of ticks
}

// look is what can be seen of a member, also of its copies by then, without changing it.
func look(g *raft.Member) sight {
	c := g.Copy()
	s := sight{view: c.View(), voters: c.Voters(), log: c.Log(0, maxCount), mails: c.Mails(), changed: c.Changed()}
	s.base.Base, s.base.BaseTerm, s.base.Voters, s.base.State = c.Snapshot()
	for tick := 1; tick <= 30 && len(c.Mails()) == 0 && c.View() == s.view; tick++ {
		c.Tick()
		s.waited = fmt.Sprint(tick, c.View())
	}
	s.waited += letters(c.Mails())
	return s
}

// mustBeAs asks that a member is as it was.
func mustBeAs(t *testing.T, what string, g *raft.Member, was sight) {
	t.Helper()
	s := look(g)
	alike := s.view == was.view && slices.Equal(s.voters, was.voters) && sameAll(s.log, was.log) &&
		s.base.Base == was.base.Base && s.base.BaseTerm == was.base.BaseTerm && s.base.State == was.base.State &&
		slices.Equal(s.base.Voters, was.base.Voters) && sameMails(s.mails, was.mails) &&
		s.changed == was.changed && s.waited == was.waited
	if !alike {
		t.Fatalf("%s: %s\nwas %s", what, shown(s), shown(was))
	}
}

// mail is a message on its way.
func mail(from, to int, x api.Msg) api.Mail { return api.Mail{From: from, To: to, Msg: x} }

// asked, voted, laid, told and rested are messages of each Kind.
func asked(term, index, prevTerm int) api.Msg {
	return api.Msg{Kind: voteAsk, Term: term, Index: index, PrevTerm: prevTerm}
}

func voted(term int, granted bool) api.Msg {
	return api.Msg{Kind: voteTell, Term: term, Granted: granted}
}

func laid(term, index, prevTerm, commit int, l ...api.Entry) api.Msg {
	return api.Msg{Kind: appendAsk, Term: term, Index: index, PrevTerm: prevTerm, Commit: commit, Entries: l}
}

func told(term int, granted bool, index int) api.Msg {
	return api.Msg{Kind: appendTell, Term: term, Granted: granted, Index: index}
}

func rested(term, index, prevTerm int, state string, l ...int) api.Msg {
	return api.Msg{Kind: snap, Term: term, Index: index, PrevTerm: prevTerm, State: state, List: l}
}

// ticks lets ticks pass.
func ticks(g *raft.Member, n int) {
	for range n {
		g.Tick()
	}
}

// forget lets nothing be left to be asked for.
func forget(g *raft.Member) *raft.Member {
	g.Mails()
	g.Changed()
	return g
}

// standing is a member that stands for election.
func standing(t *testing.T, s raft.Start) *raft.Member {
	t.Helper()
	g := mustNew(t, s)
	for range maxTicks + maxStores {
		if g.View().Role == candidate {
			return forget(g)
		}
		g.Tick()
	}
	t.Fatalf("%s never stands", shown(s))
	return nil
}

// leading is a member that leads, by the votes of all others.
func leading(t *testing.T, s raft.Start) *raft.Member {
	t.Helper()
	g := mustNew(t, s)
	for range maxTicks + maxStores {
		if v := g.View(); v.Role == candidate {
			for from := 1; from <= s.Stores; from++ {
				g.Step(from, voted(v.Term, true))
			}
		}
		if g.View().Role == leader {
			return forget(g)
		}
		g.Tick()
	}
	t.Fatalf("%s never leads", shown(s))
	return nil
}

// row are the numbers of a row that hangs on its beginning alone.
type row uint32

// next is a number from 0 on, below n.
func (r *row) next(n int) int {
	*r = *r*1664525 + 1013904223
	return int(*r>>8) % n
}

// one is one of a list.
func one[T any](r *row, l []T) T { return l[r.next(len(l))] }

// voters are drawn voters of so many stores.
func (r *row) voters(stores int) []int { return subset(1+r.next(1<<stores-1), stores) }

// subset are the stores that a number's bits say, rising.
func subset(bits, stores int) []int {
	var l []int
	for store := 1; store <= stores; store++ {
		if bits>>(store-1)&1 == 1 {
			l = append(l, store)
		}
	}
	return l
}

// entry is a drawn entry of a term, that may be.
func (r *row) entry(term, stores int) api.Entry {
	switch r.next(6) {
	case 0:
		return noop(term)
	case 1:
		return members(term, r.voters(stores)...)
	}
	return change(term, fmt.Sprint(r.next(1000)))
}

// entries are n drawn entries whose terms don't fall from a term on, up to another one.
func (r *row) entries(term, most, n, stores int) []api.Entry {
	var l []api.Entry
	for range n {
		term = min(max(1, term+max(0, r.next(5)-3)), most)
		l = append(l, r.entry(term, stores))
	}
	return l
}

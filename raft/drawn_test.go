package raft_test

import (
	"fmt"
	"math"
	"slices"
	"testing"

	"buttery/api"
	"buttery/raft"
)

// both is a member, and the same in mind.
type both struct {
	g *raft.Member
	m *mind
}

// mustBoth is a member, and the same in mind.
func mustBoth(t *testing.T, s raft.Start) both {
	t.Helper()
	return both{mustNew(t, s), thought(s)}
}

// twin are copies that go their own ways.
func (b both) twin() both { return both{b.g.Copy(), b.m.twin()} }

// tick, step, propose and compact do the same to the one and to the other.
func (b both) tick() {
	b.g.Tick()
	b.m.tick()
}

func (b both) step(from int, x api.Msg) {
	b.g.Step(from, x)
	b.m.step(from, x)
}

func (b both) propose(t *testing.T, kind uint8, data string, l []int) {
	t.Helper()
	want, wantErr := b.m.propose(kind, data, l)
	if i, err := b.g.Propose(kind, data, l); i != want || err != wantErr {
		t.Fatalf("Propose(%d, %d bytes, %v): %d, %v, want %d, %v", kind, len(data), l, i, err, want, wantErr)
	}
}

func (b both) compact(t *testing.T, i int, state string) {
	t.Helper()
	want := b.m.compact(i, state)
	if err := b.g.Compact(i, state); err != want {
		t.Fatalf("Compact(%d): %v, want %v", i, err, want)
	}
}

// mustStand asks that both stand alike.
func (b both) mustStand(t *testing.T, what string) {
	t.Helper()
	if v, want := b.g.View(), b.m.view(); v != want {
		t.Fatalf("%s: View: %+v, want %+v", what, v, want)
	}
	if l, want := b.g.Voters(), b.m.electors(b.m.last()); !slices.Equal(l, want) {
		t.Fatalf("%s: Voters: %v, want %v", what, l, want)
	}
	base, term, l, state := b.g.Snapshot()
	if base != b.m.base || term != b.m.baseTerm || !slices.Equal(l, b.m.voters) || state != b.m.state {
		t.Fatalf("%s: Snapshot: %d %d %v %q, want %d %d %v %q", what, base, term, l, state, b.m.base, b.m.baseTerm, b.m.voters, b.m.state)
	}
	if l, want := b.g.Log(0, math.MaxInt), b.m.log(0, math.MaxInt, b.m.last()); !sameAll(l, want) {
		t.Fatalf("%s: Log: %s, want %s", what, shown(l), shown(want))
	}
}

// mustTell asks that both tell the same of parts of their logs.
func (b both) mustTell(t *testing.T, what string) {
	t.Helper()
	afters := []int{math.MinInt, -1, 0, 1, math.MaxInt}
	for i := b.m.base - 2; i < b.m.last()+2; i++ {
		afters = append(afters, i)
	}
	for _, after := range afters {
		for _, most := range []int{math.MinInt, -1, 0, 1, 2, len(b.m.at) - 1, len(b.m.at), len(b.m.at) + 1, math.MaxInt} {
			if l, want := b.g.Log(after, most), b.m.log(after, most, b.m.last()); !sameAll(l, want) {
				t.Fatalf("%s: Log(%d, %d): %s, want %s", what, after, most, shown(l), shown(want))
			}
			if l, want := b.g.Entries(after, most), b.m.log(after, most, b.m.commit); !sameAll(l, want) {
				t.Fatalf("%s: Entries(%d, %d): %s, want %s", what, after, most, shown(l), shown(want))
			}
		}
	}
}

// mustSend asks that both have sent the same.
func (b both) mustSend(t *testing.T, what string) {
	t.Helper()
	if l, want := b.g.Mails(), b.m.takeMails(); !sameMails(l, want) {
		t.Fatalf("%s: Mails: %s\nwant %s", what, shown(l), shown(want))
	}
}

// mustHaveChanged asks that both must keep the same.
func (b both) mustHaveChanged(t *testing.T, what string) {
	t.Helper()
	if c, want := b.g.Changed(), b.m.takeChanged(); c != want {
		t.Fatalf("%s: Changed: %+v, want %+v", what, c, want)
	}
}

// mustBeAlike asks all that can be asked of both.
func (b both) mustBeAlike(t *testing.T, what string) {
	t.Helper()
	b.mustStand(t, what)
	b.mustSend(t, what)
	b.mustHaveChanged(t, what)
}

// index is a drawn index that matters to a member.
func (r *row) index(m *mind) int {
	switch r.next(8) {
	case 0:
		return m.last() + r.next(3)
	case 1:
		return m.commit + r.next(3)
	case 2:
		return max(0, m.base-2+r.next(4))
	case 3:
		return r.next(m.last() + 1)
	}
	return m.base + r.next(len(m.at)+1)
}

// message is a drawn message, most often one that may be and that fits a member.
func (r *row) message(m *mind) (int, api.Msg) {
	from := 1 + r.next(m.stores)
	x := api.Msg{Kind: uint8(1 + r.next(5)), Term: max(1, m.term), Index: r.index(m), Granted: r.next(4) > 0}
	switch r.next(10) {
	case 0:
		x.Term = max(1, m.term+r.next(4)-1)
	case 1:
		x.Term = 1 + r.next(m.term+1)
	}
	term, ok := m.termAt(x.Index)
	if !ok || r.next(8) == 0 {
		term = r.next(x.Term + 1)
	}
	x.PrevTerm = min(term, x.Term)
	if x.Kind == voteAsk && r.next(2) == 0 {
		x.PrevTerm = x.Term
	}
	if x.Kind == appendAsk {
		x.Commit = one(r, []int{0, r.index(m), x.Index, x.Index + 1 + r.next(4), maxCount})
		x.Entries = r.piece(m, x)
	}
	if x.Kind == snap || r.next(20) == 0 {
		x.List, x.State = r.voters(m.stores), fmt.Sprint("at", r.next(100))
	}
	if r.next(12) == 0 {
		from, x = r.spoilt(from, x)
	}
	return from, x
}

// piece are drawn entries for a message: often of the terms that the log has there.
func (r *row) piece(m *mind, x api.Msg) []api.Entry {
	l := r.entries(x.PrevTerm, x.Term, r.next(6), m.stores)
	for i := range l {
		e, ok := m.at[x.Index+1+i]
		if ok && r.next(6) > 0 && e.Term <= x.Term && (i == 0 && e.Term >= x.PrevTerm || i > 0 && e.Term >= l[i-1].Term) {
			l[i] = e
		}
	}
	for i := 1; i < len(l); i++ {
		l[i].Term = max(l[i].Term, l[i-1].Term)
	}
	return l
}

// spoilt is a message one thing of which is turned.
func (r *row) spoilt(from int, x api.Msg) (int, api.Msg) {
	n := one(r, ints())
	switch r.next(10) {
	case 0:
		from = n
	case 1:
		x.Kind = uint8(r.next(256))
	case 2:
		x.Term = n
	case 3:
		x.Index = n
	case 4:
		x.PrevTerm = n
	case 5:
		x.Commit = n
	case 6:
		x.Entries = append(x.Entries, r.entry(max(1, x.Term+r.next(3)-1), maxStores))
	case 7:
		x.List = one(r, [][]int{nil, {0}, {6}, {2, 1}, {1, 1}, {1, 2, 3, 4, 5}, {1, 2, 3, 4, 5, 6}})
	case 8:
		x.Entries = append(x.Entries, one(r, []api.Entry{{}, badEntry(), noop(0), noop(x.Term), members(x.Term)}))
	default: // what is not looked at
		x.Shard, x.Epoch, x.Owner, x.Req, x.Client, x.ID, x.Grant, x.Part = n, n, n, n, n, n, n, n
		x.Op, x.Code, x.Last, x.Command = api.Op{Kind: 9, Key: "k"}, 77, true, api.Command{Kind: 9, Shard: n}
		x.Pairs, x.Lasts = []api.Pair{{Key: "a"}}, []api.Last{{Client: n}}
	}
	return from, x
}

// play does one drawn thing to both.
func (r *row) play(t *testing.T, b both) {
	t.Helper()
	switch k := r.next(20); {
	case k < 5:
		for range 1 + r.next(b.m.elect+b.m.id) {
			b.tick()
		}
	case k < 8 && b.m.role == candidate:
		b.step(1+r.next(b.m.stores), voted(b.m.term, true))
	case k < 8 && b.m.role == leader:
		b.step(1+r.next(b.m.stores), told(b.m.term, true, b.m.last()-r.next(2)))
	case k < 10:
		e := r.entry(1, b.m.stores)
		if e.Kind == 3 && r.next(2) == 0 {
			e.List = r.turned(b.m)
		}
		if r.next(9) == 0 {
			e = one(r, []api.Entry{{}, badEntry(), {Kind: 1, Data: "x"}, change(1, string(make([]byte, maxEntry+1))), members(1), members(1, b.m.stores+1)})
		}
		b.propose(t, e.Kind, e.Data, e.List)
	case k < 11 && r.next(2) == 0:
		b.compact(t, one(r, []int{b.m.base + r.next(b.m.commit-b.m.base+1), b.m.commit, b.m.base, b.m.base - 1, b.m.commit + 1, one(r, ints())}), fmt.Sprint("cut", r.next(100)))
	default:
		b.step(r.message(b.m))
	}
}

// turned are the voters of a member, but for one store.
func (r *row) turned(m *mind) []int {
	store := 1 + r.next(m.stores)
	var l []int
	for v := 1; v <= m.stores; v++ {
		if slices.Contains(m.electors(m.last()), v) != (v == store) {
			l = append(l, v)
		}
	}
	return l
}

// start is a drawn member's beginning.
func (r *row) start() raft.Start {
	stores := 1 + r.next(maxStores)
	s := begin(1+r.next(stores), stores)
	s.Elect, s.Beat = 1+r.next(9), 1+r.next(5)
	s.Base = one(r, []int{0, 0, r.next(9), maxCount - r.next(12)})
	s.Term = one(r, []int{0, r.next(4), r.next(9), maxCount - r.next(3)})
	s.Vote = one(r, []int{0, r.next(stores + 1)})
	s.BaseTerm = r.next(min(s.Term, 9) + 1)
	if s.Term > 0 {
		s.Entries = r.entries(s.BaseTerm, s.Term, min(r.next(9), maxCount-s.Base), stores)
	}
	s.Voters, s.State = one(r, [][]int{upTo(stores), r.voters(stores)}), fmt.Sprint("begun", r.next(9))
	return s
}

// count is 1, if something is so.
func count(is bool) int {
	if is {
		return 1
	}
	return 0
}

// P16.1, P16.2, P16.3, P16.4: long drawn rows of calls, with copies that go their own ways,
// against the chapter done plainly.
func TestLongRowsAsInMind(t *testing.T) {
	led, agreed, cut, fallen := 0, 0, 0, 0
	for seed := range 3000 {
		r := row(seed)
		l := []both{mustBoth(t, r.start())}
		for step := range 150 {
			what := fmt.Sprintf("seed %d, step %d", seed, step)
			b := one(&r, l)
			if r.next(40) == 0 && len(l) < 4 {
				l = append(l, b.twin())
			}
			was := b.m.view()
			r.play(t, b)
			b.mustStand(t, what)
			if r.next(3) > 0 {
				b.mustSend(t, what)
			}
			if r.next(3) > 0 {
				b.mustHaveChanged(t, what)
			}
			if r.next(20) == 0 {
				b.mustTell(t, what)
			}
			is := b.m.view()
			led += count(is.Role == leader && was.Role != leader)
			agreed += count(is.Commit > was.Commit)
			cut += count(is.Base > was.Base)
			fallen += count(is.Last < was.Last)
		}
		for _, b := range l {
			b.mustBeAlike(t, "at last")
			b.mustTell(t, "at last")
		}
	}
	if led < 2000 || agreed < 5000 || cut < 2000 || fallen < 200 {
		t.Errorf("it led %d times, agreed %d times, its base went on %d times, its last fell %d times", led, agreed, cut, fallen)
	}
}

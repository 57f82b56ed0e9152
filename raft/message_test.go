package raft_test

import (
	"fmt"
	"testing"

	"buttery/api"
)

// stands are members, each with the same in mind, that stand in all ways that matter.
func stands(t *testing.T) map[string]both {
	t.Helper()
	l := map[string]both{}
	add := func(what string, b both, do ...func(b both)) both {
		for _, f := range do {
			f(b)
		}
		b.mustSend(t, what)
		b.mustHaveChanged(t, what)
		l[what] = b
		return b
	}
	step := func(from int, x api.Msg) func(b both) { return func(b both) { b.step(from, x) } }
	tick := func(n int) func(b both) {
		return func(b both) {
			for range n {
				b.tick()
			}
		}
	}
	propose := func(e api.Entry) func(b both) { return func(b both) { b.propose(t, e.Kind, e.Data, e.List) } }
	compact := func(i int) func(b both) { return func(b both) { b.compact(t, i, fmt.Sprint("cut ", i)) } }
	log := []api.Entry{noop(1), change(2, "a"), members(2, 1, 2, 3), change(4, "b")}
	add("begun", mustBoth(t, begin(2, 3)), tick(8))
	f := add("a follower", mustBoth(t, grown(2, 3, 5, 10, 1, log...)), step(3, laid(5, 12, 2, 12)), tick(4))
	add("one that voted", f.twin(), step(1, asked(6, 14, 4)), tick(3))
	add("one that follows nobody", f.twin(), step(1, voted(6, false)), tick(7))
	add("a base and nothing else", f.twin(), step(3, laid(5, 14, 4, 14)), compact(14), tick(7))
	add("one that does not vote", f.twin(), step(3, laid(5, 14, 4, 15, members(5, 1, 3))), tick(30))
	add("one whose voters turn", f.twin(), step(3, laid(5, 14, 4, 14, members(5, 1, 3))), tick(8))
	c := add("a candidate", f.twin(), tick(6))
	add("a candidate that ticked on", c.twin(), tick(9), tick(8))
	d := add("a leader", c.twin(), step(1, voted(6, true)))
	e := add("a leader that was told", d.twin(), step(1, told(6, true, 15)), step(3, told(6, false, 12)))
	add("a leader that forgot", e.twin(), compact(15), tick(1))
	add("a leader that proposed", e.twin(), propose(change(0, "c")), propose(members(0, 1, 2)), propose(change(0, "d")))
	add("a leader that leaves", e.twin(), propose(members(0, 1, 3)), tick(1))
	five := add("a candidate of five", mustBoth(t, grown(1, 5, 3, 2, 1, noop(2))), tick(8), step(4, voted(4, true)))
	many := add("a leader of five", five.twin(), step(2, voted(4, true)), step(5, told(4, true, 4)))
	add("a leader with much", many.twin(), propose(change(0, "e")), propose(change(0, "f")), propose(change(0, "g")), propose(change(0, "h")),
		propose(change(0, "i")), propose(change(0, "j")), propose(change(0, "k")), propose(change(0, "l")), propose(change(0, "m")), step(5, told(4, true, 9)))
	add("a group of one", mustBoth(t, begin(1, 1)), tick(9))
	add("at the greatest Term", mustBoth(t, grown(2, 3, maxCount, 4, 1, noop(3))), tick(7))
	add("at the greatest index", mustBoth(t, grown(2, 3, 5, maxCount-2, 1, noops(2, 3)...)), tick(9))
	add("a leader at the greatest index", mustBoth(t, grown(2, 3, 5, maxCount-3, 1, noops(2, 3)...)), tick(9), step(1, voted(6, true)))
	return l
}

// near are numbers about others, those among them that are apart.
func near(l ...int) []int {
	seen := map[int]bool{}
	var all []int
	for _, n := range l {
		for k := n - 1; k <= n+1; k++ {
			if !seen[k] {
				seen[k] = true
				all = append(all, k)
			}
		}
	}
	return all
}

// mustHear steps twins with a message, and asks that they are alike behind it, and behind a row of
// ticks.
func mustHear(t *testing.T, what string, b both, from int, x api.Msg) {
	t.Helper()
	b = b.twin()
	b.step(from, x)
	b.mustBeAlike(t, what)
	waited := 0
	for range 12 {
		b.tick()
		waited++
		if len(b.m.mails) > 0 {
			break
		}
	}
	b.mustBeAlike(t, fmt.Sprint(what, ", ", waited, " ticks later"))
}

// P16.1: each kind of member hears each Kind of message: Terms, Index and PrevTerm about all that
// matters to it.
func TestMessagesAsInMind(t *testing.T) {
	for name, b := range stands(t) {
		m := b.m
		from := m.id%m.stores + 1
		for kind := uint8(0); kind < 8; kind++ {
			for _, term := range near(m.term) {
				for _, index := range near(m.base, m.commit, m.last(), maxCount) {
					at, _ := m.termAt(index)
					for _, prev := range near(at, m.term) {
						for _, granted := range []bool{true, false} {
							x := api.Msg{Kind: kind, Term: term, Index: index, PrevTerm: prev, Granted: granted, List: list(1, m.stores), State: "told", Commit: min(maxCount, m.last()+1)}
							if m.stores == 1 {
								x.List = list(1)
							}
							what := fmt.Sprintf("%s: %s", name, shown([]api.Mail{mail(from, m.id, x)}))
							mustHear(t, what, b, from, x)
						}
					}
				}
			}
		}
	}
}

// P16.1: Appends with all kinds of entries, and Commit below, at and above.
func TestAppendsAsInMind(t *testing.T) {
	for name, b := range stands(t) {
		m := b.m
		from := m.id%m.stores + 1
		for _, index := range near(m.base, m.commit, m.last()) {
			at, _ := m.termAt(index)
			for _, prev := range []int{at, max(0, at-1), m.term} {
				for first := max(1, at); first <= min(m.term+1, at+3); first++ {
					for many := range 5 {
						for up := range 3 {
							var l []api.Entry
							for k := range many {
								e, ok := m.at[index+1+k]
								if !ok || up > 0 && k >= up {
									e = change(first+k*(up/2), "other")
								}
								l = append(l, e)
							}
							for _, commit := range []int{0, m.commit, index + many - 1, index + many, index + many + 1} {
								x := laid(m.term, index, prev, max(0, commit), l...)
								what := fmt.Sprintf("%s: %s", name, shown([]api.Mail{mail(from, m.id, x)}))
								mustHear(t, what, b, from, x)
							}
						}
					}
				}
			}
		}
	}
}

// fit is a message of each Kind that may be, and that does something.
func fit(b both, kind uint8) api.Msg {
	m := b.m
	term, _ := m.termAt(m.last())
	x := api.Msg{Kind: kind, Term: max(1, m.term), Index: m.last(), PrevTerm: min(term, max(1, m.term)), Granted: true}
	if kind == snap {
		x.List, x.State = list(1), "fit"
		x.Index = min(maxCount, m.last()+3)
	}
	if kind == appendAsk && m.last() < maxCount {
		x.Entries, x.Commit = []api.Entry{change(x.Term, "fit")}, m.last()+1
	}
	return x
}

// P16.1: each field that is looked at, one beyond each of its ends and at them: what may not be
// changes nothing and sends nothing.
func TestMessagesThatMayNotBe(t *testing.T) {
	passed := 0
	for name, b := range stands(t) {
		from := b.m.id%b.m.stores + 1
		hear := func(from int, x api.Msg) {
			t.Helper()
			what := fmt.Sprintf("%s: %s", name, shown([]api.Mail{mail(from, b.m.id, x)}))
			if !b.m.mayCome(from, x) {
				passed++
				was, c := look(b.g), b.g.Copy()
				c.Step(from, x)
				mustBeAs(t, what, c, was)
			}
			mustHear(t, what, b, from, x)
		}
		for kind := uint8(1); kind <= 5; kind++ {
			for _, n := range append(ints(), b.m.id, b.m.stores, b.m.stores+1, b.m.last(), b.m.term, b.m.term+1) {
				hear(n, fit(b, kind))
				x := fit(b, kind)
				x.Term = n
				hear(from, x)
				x = fit(b, kind)
				x.Index = n
				hear(from, x)
				x = fit(b, kind)
				x.PrevTerm = n
				hear(from, x)
				x = fit(b, kind)
				x.Commit = n
				hear(from, x)
				x.Term, x.PrevTerm = b.m.term+1, n
				hear(from, x)
			}
			x := fit(b, kind)
			x.PrevTerm = x.Term + 1
			hear(from, x)
		}
		for kind := range 256 {
			x := fit(b, appendAsk)
			x.Kind = uint8(kind)
			hear(from, x)
		}
	}
	if passed < 1000 {
		t.Errorf("%d messages were none", passed)
	}
}

// P16.1: the entries of an Append, and the List of a Snap, of which nothing may be wrong.
func TestListsThatMayNotBe(t *testing.T) {
	for name, b := range stands(t) {
		m := b.m
		from := m.id%m.stores + 1
		term := max(1, m.term)
		good, last := change(term, "good"), fit(b, appendAsk)
		wrong := [][]api.Entry{
			{{}}, {badEntry()}, {noop(0)}, {noop(-1)}, {noop(past())}, {noop(term + 1)}, {good, noop(term + 1)}, {noop(last.PrevTerm - 1)},
			{good, noop(term - 1)}, {good, noop(term - 1), good}, {{Term: term}}, {{Term: term, Kind: 4}}, {good, {Term: term, Kind: 1, Data: "x"}},
			{{Term: term, Kind: 1, List: list(1)}}, {{Term: term, Kind: 2, List: list(1)}}, {{Term: term, Kind: 3, Data: "x", List: list(1)}},
			{change(term, string(make([]byte, maxEntry+1)))}, {members(term)}, {members(term, 0)}, {members(term, 1, 1)}, {members(term, 2, 1)},
			{members(term, m.stores+1)}, {members(term, 1, m.stores+1)}, {good, good, members(term, upTo(m.stores+1)...)}, {members(term, 6)},
			{good, members(term, m.stores)}, {members(term, upTo(m.stores)...)}, {good, good, good, good, good, good, good, good, good, good},
			{change(term, string(make([]byte, maxEntry)))}, nil, {},
		}
		for _, l := range wrong {
			for _, index := range []int{m.last(), m.last() - 1, m.last() + 1, m.base, maxCount - len(l), maxCount - len(l) + 1} {
				x := laid(term, index, 0, index+1, l...)
				x.PrevTerm, _ = m.termAt(index)
				x.PrevTerm = min(x.PrevTerm, term)
				mustHear(t, fmt.Sprintf("%s: %s", name, shown([]api.Mail{mail(from, m.id, x)})), b, from, x)
			}
		}
		for _, l := range [][]int{nil, {}, {0}, {-1}, {1, 1}, {2, 1}, {1, 0}, {0, 1}, {m.stores + 1}, {1, m.stores + 1}, {6}, upTo(m.stores + 1), {1, past()}, upTo(m.stores), {m.stores}, {1}} {
			for _, index := range []int{m.commit, m.commit + 1, m.last(), m.last() + 1} {
				x := rested(term, index, 0, "list", l...)
				x.PrevTerm, _ = m.termAt(index)
				x.PrevTerm = min(x.PrevTerm, term)
				mustHear(t, fmt.Sprintf("%s: %s", name, shown([]api.Mail{mail(from, m.id, x)})), b, from, x)
			}
		}
	}
}

// P16.1: other fields are not looked at, whatever stands there.
func TestOtherFieldsAreNotLookedAt(t *testing.T) {
	for name, b := range stands(t) {
		from := b.m.id%b.m.stores + 1
		for kind := uint8(1); kind <= 5; kind++ {
			for _, n := range ints() {
				x := fit(b, kind)
				x.Shard, x.Epoch, x.Owner, x.Req, x.Client, x.ID, x.Grant, x.Part = n, n, n, n, n, n, n, n
				x.Op, x.Code, x.Result, x.Last = api.Op{Kind: 77, Key: "k"}, api.Errno(n), api.Result{Kind: 9}, true
				x.Pairs, x.Lasts, x.Command = make([]api.Pair, 9), []api.Last{{Client: n}}, api.Command{Kind: 9, Shard: n}
				if kind != appendAsk {
					x.Entries = []api.Entry{badEntry(), {}}
				}
				if kind != snap {
					x.List, x.State = list(n, n, 0), "none"
				}
				if kind == appendAsk || kind == snap {
					x.Granted = false
				}
				what := fmt.Sprintf("%s: Kind %d, %d", name, kind, n)
				one, other := b.g.Copy(), b.g.Copy()
				one.Step(from, fit(b, kind))
				other.Step(from, x)
				mustBeAs(t, what, other, look(one))
				mustHear(t, what, b, from, x)
			}
		}
	}
}

package rlog_test

import (
	"slices"
	"testing"

	"buttery/api"
	"buttery/rlog"
)

// pieces are entries of all kinds, those that may be and others.
func pieces() [][]api.Entry {
	l := [][]api.Entry{nil, {}, {{}}, {badEntry()}, noops(1), noops(1, 2, 3), noops(3, 2, 1), noops(maxCount, maxCount), marked("m", 1, 1, 2, 9)}
	for _, x := range byHand() {
		l = append(l, []api.Entry{x.e}, []api.Entry{x.e, x.e})
	}
	return append(l, badEntries())
}

// everyCall does every call, with two numbers for all that is a number.
func everyCall(g *rlog.Log, i, j int, l []api.Entry) {
	g.Base()
	g.Last()
	g.Term(i)
	g.Entry(j)
	g.From(i, j)
	g.Above(i, j)
	g.Members(i)
	c := g.Copy()
	for _, e := range l {
		c.Append(e)
	}
	c.Merge(j, i, l)
	c.Cut(i)
	c.Reset(j, i)
	g.Merge(i, j, l)
	g.Cut(j)
	for _, e := range l {
		g.Append(e)
	}
	g.Reset(i, j)
}

// R1: no call panics, whatever it is handed, and all end.
func TestWhateverIsHandedIn(t *testing.T) {
	for _, i := range ints() {
		for _, j := range ints() {
			for _, l := range pieces() {
				g, err := rlog.New(i, j, l)
				if (err == api.OK) != (g != nil) {
					t.Errorf("New(%d, %d, %s): a log %v, %v", i, j, shown(l), g != nil, err)
				}
				everyCall(g, j, i, l)
				everyCall(nil, i, j, l)
			}
			everyCall(mustNew(t, 3, 1, noops(1, 2, 2, 3)), i, j, noops(2, 3))
		}
	}
	for _, l := range pieces() {
		for _, e := range l {
			rlog.Check(e)
			rlog.Write(e)
		}
	}
	long := api.Entry{Term: 1, Kind: 2, Data: text("k", 1<<24), List: make([]int, 1<<20)}
	mustCheck(t, long, false)
	mustNotWrite(t, long)
	mustAppend(t, mustNew(t, 0, 0, nil), long, api.ErrArg)
}

// R1: logs that were not made by the package panic nowhere, nor those that were copied by the
// language's own copying.
func TestLogsMadeOtherwise(t *testing.T) {
	for _, i := range ints() {
		for _, j := range ints() {
			everyCall(new(rlog.Log), i, j, noops(1, 2))
			g := mustNew(t, 2, 1, marked("g", 1, 2, 3, 4))
			h := *g
			everyCall(&h, i, j, noops(3, 4))
			everyCall(g, j, i, noops(4, 5))
			everyCall(&h, j, i, noops(5))
		}
	}
	g := mustNew(t, 2, 1, marked("g", 1, 2, 3, 4))
	h := *g
	g.Cut(4)
	h.Merge(3, 1, noops(9, 9))
	h.Cut(3)
	g.Members(9)
	g.Merge(5, 3, noops(4))
	h.Append(noop(12))
	everyCall(&h, 3, 9, noops(9))
	everyCall(g, 3, 9, noops(9))
}

// R2: logs do not see one another; the same calls tell the same again.
func TestLogsAreApart(t *testing.T) {
	l := marked("l", 1, 2, 2)
	a, b := mustNew(t, 1, 1, l), mustNew(t, 1, 1, l)
	mustAppend(t, a, noop(5), api.OK)
	mustStand(t, "the other one", b, thought(1, 1, l))
	mustMerge(t, b, 2, 1, noops(3), 3, api.OK)
	mustCut(t, b, 2, api.OK)
	mustStand(t, "the one", a, thought(1, 1, append(cloned(l), noop(5))))
	mustReset(t, a, 0, 0, api.OK)
	mustStand(t, "the other one", b, thought(2, 1, noops(3)))
	first, m := playOut(t, 9)
	again, _ := playOut(t, 9)
	mustStand(t, "played", first, m)
	mustStand(t, "played again", again, m)
}

// playOut plays a row of calls with a new log, and in mind.
func playOut(t *testing.T, seed int) (*rlog.Log, mind) {
	t.Helper()
	r, g, m := row(seed), mustNew(t, 0, 0, nil), thought(0, 0, nil)
	for range 200 {
		m = r.play(t, g, m)
	}
	return g, m
}

// handed is a list with room behind its end, where other things stand, in it and in its Lists.
func handed(l []api.Entry) []api.Entry {
	l = roomy(l, noop(77), members(78, 1, 2))
	for i, e := range l {
		l[i].List = roomy(e.List, 4, 5, 5, 5)
	}
	return l
}

// mustBeAsHanded asks that nothing of what was handed in was changed, behind its ends neither.
func mustBeAsHanded(t *testing.T, what string, l, want []api.Entry) {
	t.Helper()
	if !sameAll(whole(l)[:len(l)+2], append(cloned(want), noop(77), members(78, 1, 2))) {
		t.Fatalf("%s changed %s: %s", what, shown(want), shown(whole(l)))
	}
	for i, e := range l {
		if n := len(e.List); !slices.Equal(whole(e.List)[:n+4], append(slices.Clone(want[i].List), 4, 5, 5, 5)) {
			t.Fatalf("%s changed the List of %s: %v", what, shown(want[i]), whole(e.List))
		}
	}
}

// lists are lists of entries with Lists of their own.
func lists() []api.Entry {
	return []api.Entry{members(2, 1, 2, 3), noop(2), members(2, 4), change(3, "x"), members(4, 1, 2, 3, 4, 5)}
}

// R3: what is written over or added to in what was handed in changes no later answer.
func TestHandedInIsNotKept(t *testing.T) {
	for n := range len(lists()) + 1 {
		want := thought(6, 2, lists()[:n])
		l := handed(lists()[:n])
		g := mustNew(t, 6, 2, l)
		mustBeAsHanded(t, "New", l, lists()[:n])
		spoilEntries(l)
		mustStand(t, "made", g, want)

		l = handed(lists()[:n])
		g = mustNew(t, 6, 2, nil)
		for _, e := range l {
			mustAppend(t, g, e, api.OK)
		}
		mustBeAsHanded(t, "Append", l, lists()[:n])
		spoilEntries(l)
		mustStand(t, "appended", g, want)

		for _, had := range [][]api.Entry{nil, noops(2), noops(3, 3, 3), noops(3, 3, 3, 3, 3, 3, 3)} {
			l = handed(lists()[:n])
			g = mustNew(t, 6, 2, had)
			m, i, err := thought(6, 2, had).merged(6, 2, lists()[:n])
			mustMerge(t, g, 6, 2, l, i, err)
			mustBeAsHanded(t, "Merge", l, lists()[:n])
			spoilEntries(l)
			mustStand(t, "merged", g, m)
		}
	}
}

// R3: what is refused is not changed, either.
func TestRefusedIsNotChanged(t *testing.T) {
	for _, l := range [][]api.Entry{noops(3, 1), append(lists(), badEntry()), {badEntry()}} {
		x := handed(l)
		mustNotNew(t, 0, 2, x, api.ErrArg)
		g := mustNew(t, 1, 1, lists())
		mustMerge(t, g, 1, 1, x, 0, api.ErrArg)
		mustAppend(t, g, x[len(x)-1], api.ErrArg)
		rlog.Check(x[0])
		mustBeAsHanded(t, "a refusal", x, l)
	}
}

// R3: lists that share memory where they are handed in share none when they are told.
func TestSharedListsComeApart(t *testing.T) {
	shared := roomy([]int{1, 2, 3}, 4, 5)
	l := []api.Entry{members(2, shared[1:2]...), members(2, shared...), members(2, shared[:2]...), members(3, shared...)}
	l[0].List = shared[1:2]
	for i := 1; i < 4; i++ {
		l[i].List = shared[:4-i]
	}
	was := cloned(l)
	g := mustNew(t, 0, 0, l[:1])
	mustMerge(t, g, 1, 2, l[1:3], 2, api.OK)
	mustAppend(t, g, l[3], api.OK)
	told := g.From(1, 9)
	if !sameAll(told, was) || !sameAll(l, was) {
		t.Fatal(shown(told), shown(l))
	}
	for i, e := range told {
		spoil(e.List, -i)
	}
	for i, e := range told {
		for _, n := range whole(e.List) {
			if n != -i {
				t.Fatalf("two Lists of one answer share memory: %s", shown(told))
			}
		}
	}
	mustStand(t, "spoilt", g, thought(0, 0, was))
}

// R3: what is written over or added to in what was told changes no later answer.
func TestToldIsNew(t *testing.T) {
	for n := range len(lists()) + 1 {
		g, m := mustNew(t, 6, 2, lists()[:n]), thought(6, 2, lists()[:n])
		for i := 5; i <= 13; i++ {
			for most := range 7 {
				one, other := g.From(i, most), g.From(i, most)
				spoilEntries(one)
				if !sameAll(other, m.from(i, most)) {
					t.Fatalf("From(%d, %d) twice: %s", i, most, shown(other))
				}
			}
			e, _ := g.Entry(i)
			spoil(e.List, -9)
			l, _ := g.Members(i)
			spoil(l, -9)
			c := g.Copy()
			spoilEntries(c.From(0, 9))
			mustStand(t, "a spoilt copy", c, m)
		}
		mustStand(t, "spoilt", g, m)
		// What stands behind the ends must not be the log's room for what comes next.
		spoilEntries(g.From(7, 9))
		mustAppend(t, g, members(9, 3), api.OK)
		m, _ = m.added(members(9, 3))
		mustStand(t, "gone on", g, m)
	}
}

// changes are ways to change a log, each with what becomes of it in mind.
func changes() []func(t *testing.T, g *rlog.Log, m mind) mind {
	add := func(t *testing.T, g *rlog.Log, m mind) mind {
		_, term := m.ends()
		e := members(max(1, term), 2, 3)
		mustAppend(t, g, e, api.OK)
		m, _ = m.added(e)
		return m
	}
	merge := func(n int) func(t *testing.T, g *rlog.Log, m mind) mind {
		return func(t *testing.T, g *rlog.Log, m mind) mind {
			_, term := m.ends()
			l := noops(term+1, term+1, term+2)[:n]
			prev := m.base + min(n, len(m.at))
			x, _ := m.termAt(prev)
			m, want, err := m.merged(prev, x, l)
			mustMerge(t, g, prev, x, l, want, err)
			return m
		}
	}
	cut := func(n int) func(t *testing.T, g *rlog.Log, m mind) mind {
		return func(t *testing.T, g *rlog.Log, m mind) mind {
			i := m.base + min(n, len(m.at))
			m, err := m.cut(i)
			mustCut(t, g, i, err)
			return m
		}
	}
	reset := func(t *testing.T, g *rlog.Log, m mind) mind {
		mustReset(t, g, m.base+2, m.term+1, api.OK)
		m, _ = m.reset(m.base+2, m.term+1)
		return m
	}
	return []func(t *testing.T, g *rlog.Log, m mind) mind{add, merge(1), merge(2), merge(3), cut(1), cut(3), reset}
}

// R3: a copy goes its own way, either way round: rows of three changes, of the one or of the
// other.
func TestCopiesGoTheirOwnWays(t *testing.T) {
	for _, s := range []start{{0, 0, nil}, {4, 1, noops(1)}, {4, 1, lists()}, {4, 1, append(lists(), marked("c", 5, 5, 6)...)}} {
		for _, first := range changes() {
			for _, second := range changes() {
				for _, third := range changes() {
					for who := range 8 {
						g := mustNew(t, s.base, s.term, s.l)
						mustAppend(t, g, noop(7), api.OK) // there may be room behind the last one then
						both := []*rlog.Log{g, g.Copy()}
						m, _ := thought(s.base, s.term, s.l).added(noop(7))
						minds := []mind{m, m}
						for i, change := range []func(*testing.T, *rlog.Log, mind) mind{first, second, third} {
							k := who >> i & 1
							minds[k] = change(t, both[k], minds[k])
						}
						for k, g := range both {
							mustHaveEnds(t, "a copy", g, minds[k])
							if l := g.From(0, 99); !sameAll(l, minds[k].list()) {
								t.Fatalf("the copy %d of %v: %s, want %s", k, s, shown(l), shown(minds[k].list()))
							}
						}
					}
				}
			}
		}
	}
}

// P14.2: a copy tells all that its log tells, and a copy of a copy.
func TestCopy(t *testing.T) {
	for _, s := range starts() {
		g, m := mustNew(t, s.base, s.term, s.l), thought(s.base, s.term, s.l)
		c := g.Copy()
		if c == g {
			t.Fatal("a copy is the log itself")
		}
		mustStand(t, "a copy", c, m)
		mustReset(t, g, 1, 1, api.OK)
		mustStand(t, "a copy of a copy", c.Copy(), m)
	}
}

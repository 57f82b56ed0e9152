package call_test

import (
	"slices"
	"strings"
	"testing"

	"buttery/api"
	"buttery/call"
)

// mind are Calls in mind: a list that is made anew by each call.
type mind struct {
	life, given int
	waits       []call.Wait
}

// Kinds of calls.
const (
	anAsk = iota
	aTell
	aLook
	aMark
	aDue
	anOld
	anAll
)

// act is a call; req is how far a number is from the life's beginning, n is every or most.
type act struct {
	kind       int
	key        string
	client, id int
	now, n     int
	req        int
}

// text tells a call.
func (x act) text() string {
	return []string{"Ask", "Tell", "Look", "Mark", "Due", "Old", "All"}[x.kind] + shown(x) + "; "
}

// answer is what a call answers.
type answer struct {
	n   int
	err api.Errno
	w   call.Wait
	ok  bool
	l   []call.Wait
}

// same says whether two answers are alike.
func (a answer) same(b answer) bool {
	return a.n == b.n && a.err == b.err && a.w == b.w && a.ok == b.ok && slices.Equal(a.l, b.l)
}

// ago says whether a tick is so many ticks ago, or more, by numbers that have no sign.
func ago(tick, now, many int) bool {
	return many > 0 && now >= tick && uint(now)-uint(tick) >= uint(many)
}

// ask asks in mind.
func (m mind) ask(x act) (mind, answer) {
	switch {
	case x.now < 0:
		return m, answer{err: api.ErrArg}
	case len(m.waits) == maxWaits:
		return m, answer{err: api.ErrFull}
	case m.given == perLife:
		return m, answer{err: api.ErrExhausted}
	}
	m.given++
	w := wait(number(m.life, m.given), x.key, x.client, x.id, x.now)
	m.waits = slices.Concat(m.waits, []call.Wait{w})
	return m, answer{n: w.Req}
}

// pick makes a mind of what each wait becomes, and tells those that are told; a wait that
// becomes one without a number goes.
func (m mind) pick(change func(w call.Wait) (becomes, told call.Wait)) (mind, []call.Wait) {
	var l, told []call.Wait
	for _, w := range m.waits {
		becomes, tell := change(w)
		if becomes.Req != 0 {
			l = append(l, becomes)
		}
		if tell.Req != 0 {
			told = append(told, tell)
		}
	}
	m.waits = l
	return m, told
}

// think does a call in mind.
func (m mind) think(x act) (mind, answer) {
	none := call.Wait{}
	var l []call.Wait
	switch x.kind {
	case anAsk:
		return m.ask(x)
	case aTell, aLook:
		req := number(m.life, x.req)
		m, l = m.pick(func(w call.Wait) (call.Wait, call.Wait) {
			switch {
			case w.Req != req:
				return w, none
			case x.kind == aTell:
				return none, w
			}
			return w, w
		})
		if len(l) == 0 {
			return m, answer{}
		}
		return m, answer{w: l[0], ok: true}
	case aMark:
		m, l = m.pick(func(w call.Wait) (call.Wait, call.Wait) {
			if w.Key != x.key {
				return w, none
			}
			return marked(w), w
		})
		return m, answer{n: len(l)}
	case aDue:
		m, l = m.pick(func(w call.Wait) (call.Wait, call.Wait) {
			if !ago(w.Last, x.now, x.n) {
				return w, none
			}
			return at(w, x.now), at(w, x.now)
		})
	case anOld:
		m, l = m.pick(func(w call.Wait) (call.Wait, call.Wait) {
			if !ago(w.First, x.now, x.n) {
				return w, none
			}
			return none, w
		})
	default:
		l = m.waits
	}
	return m, answer{l: l}
}

// do does a call.
func do(c *call.Calls, life int, x act) answer {
	switch x.kind {
	case anAsk:
		req, err := c.Ask(x.key, x.client, x.id, x.now)
		return answer{n: req, err: err}
	case aTell:
		w, ok := c.Tell(number(life, x.req))
		return answer{w: w, ok: ok}
	case aLook:
		w, ok := c.Look(number(life, x.req))
		return answer{w: w, ok: ok}
	case aMark:
		return answer{n: c.Mark(x.key)}
	case aDue:
		return answer{l: c.Due(x.now, x.n)}
	case anOld:
		return answer{l: c.Old(x.now, x.n)}
	}
	return answer{l: c.All()}
}

// play plays calls, and in mind, and asks behind each that both are alike.
func play(t *testing.T, life int, l []act) {
	t.Helper()
	c, m := mustNew(t, life), mind{life: life}
	for i, x := range l {
		var want answer
		got := do(c, life, x)
		m, want = m.think(x)
		if !got.same(want) || !slices.Equal(c.All(), m.waits) {
			t.Fatalf("%s: %s, want %s; All: %s, want %s", told(l[:i+1]), shown(got), shown(want), shown(c.All()), shown(m.waits))
		}
	}
	mustStand(t, "at last", c, m.waits...)
}

// told tells calls.
func told(l []act) string {
	var b strings.Builder
	for _, x := range l {
		b.WriteString(x.text())
	}
	return b.String()
}

// P12.1, P12.2: all rows of five calls, out of some of each kind.
func TestAllRowsAsInMind(t *testing.T) {
	some := []act{
		{kind: anAsk, key: "a", client: 201, id: 5, now: 0}, {kind: anAsk, key: "a", client: 202, id: 6, now: 2}, {kind: anAsk, key: "b", now: 1}, {kind: anAsk, now: -1},
		{kind: aTell, req: 1}, {kind: aTell, req: 2},
		{kind: aMark, key: "a"}, {kind: aMark, key: "b"},
		{kind: aDue, now: 2, n: 1}, {kind: aDue, now: 3, n: 2}, {kind: aDue, now: 1, n: 1},
		{kind: anOld, now: 2, n: 2}, {kind: anOld, now: 1, n: 1},
	}
	var grow func(l []act)
	grow = func(l []act) {
		if len(l) == 5 {
			play(t, 2, l)
			return
		}
		for _, x := range some {
			grow(append(l[:len(l):len(l)], x))
		}
	}
	grow(nil)
}

// act is a call at about a tick, behind which about so many numbers were given; busy is how
// often, of 20 calls, it is an Ask.
func (r *row) act(now, given, busy int) act {
	x := act{
		kind: aTell + r.next(6),
		key:  one(r, []string{"", "a", "a", "b", "\xff", "c"}), client: 201 + r.next(3), id: r.next(5),
		now: max(0, now+r.next(5)-2), n: r.next(12) - 1,
		req: given - r.next(min(given+2, 90)) + 1,
	}
	if r.next(20) < busy {
		x.kind = anAsk
	}
	if x.kind == anOld {
		x.n += 10
	}
	if r.next(15) == 0 {
		x.now, x.n, x.client, x.id = one(r, ints()), one(r, ints()), one(r, ints()), one(r, ints())
	}
	return x
}

// P12.1, P12.2: many long rows of calls, on a clock that goes on mostly, with few that wait and
// with as many as may be.
func TestLongRowsAsInMind(t *testing.T) {
	full := false
	for seed := range 400 {
		r := row(seed)
		busy := one(&r, []int{3, 8, 12, 18})
		var l []act
		m := mind{life: 1}
		for step := range 400 {
			x := r.act(step/4, m.given, busy)
			var a answer
			m, a = m.think(x)
			full = full || a.err == api.ErrFull
			l = append(l, x)
		}
		play(t, 1+r.next(maxLife), l)
	}
	if !full {
		t.Error("there was always room")
	}
}

// P12.3: drawn calls over several lives: no number comes twice, and Tell of one is true at most
// once; nor is one told behind Old told it.
func TestOnce(t *testing.T) {
	for seed := range 100 {
		r := row(seed)
		given, gone := map[int]bool{}, map[int]bool{}
		var all []int
		for life := range 5 {
			life += 1 + 10*(seed%205) // five lives that follow one another
			if life > maxLife {
				break
			}
			c := mustNew(t, life)
			for now := range 300 {
				switch r.next(4) {
				case 0, 1:
					req, err := c.Ask("k", 201, 1, now)
					if err == api.OK && given[req] {
						t.Fatalf("seed %d, life %d: %d was given before", seed, life, req)
					}
					if err == api.OK {
						given[req] = true
						all = append(all, req)
					}
				case 2:
					req := one(&r, append(all, 0))
					w, ok := c.Tell(req)
					if ok && (gone[req] || w.Req != req || !given[req]) {
						t.Fatalf("seed %d, life %d: Tell(%d): %s", seed, life, req, shown(w))
					}
					gone[req] = gone[req] || ok
				case 3:
					for _, w := range c.Old(now, 40+r.next(40)) {
						if gone[w.Req] {
							t.Fatalf("seed %d, life %d: Old told %d, which was told before", seed, life, w.Req)
						}
						gone[w.Req] = true
					}
				}
			}
		}
	}
}

// P12.3: the last number of a life is below the first one of the next, so that no two lives
// have one in common.
func TestLivesAreApart(t *testing.T) {
	last := 0
	for life := 1; life <= maxLife; life++ {
		c := mustNew(t, life)
		first, err := c.Ask("k", 201, 1, 0)
		if err != api.OK || first <= last {
			t.Fatalf("life %d: its first number %d, %v, is not above %d", life, first, err, last)
		}
		last = number(life, perLife)
	}
}

// P12.4: drawn calls: what is told Marked had its key marked while it waited, and what is not
// had not.
func TestMarks(t *testing.T) {
	for seed := range 200 {
		r := row(seed)
		c := mustNew(t, 11)
		key, wasMarked, gone := map[int]string{}, map[int]bool{}, map[int]bool{}
		given := 0
		told, saw := 0, 0
		check := func(what string, l ...call.Wait) {
			t.Helper()
			for _, w := range l {
				if w.Marked != wasMarked[w.Req] || w.Key != key[w.Req] {
					t.Fatalf("seed %d: %s: %s, want Marked %v, of %s", seed, what, shown(w), wasMarked[w.Req], shown(key[w.Req]))
				}
				told++
				if w.Marked {
					saw++
				}
			}
		}
		for now := range 500 {
			switch x := r.act(now/4, given, 9); x.kind {
			case anAsk:
				if req, err := c.Ask(x.key, x.client, x.id, x.now); err == api.OK {
					given++
					key[req] = x.key
				}
			case aTell:
				if w, ok := c.Tell(number(11, x.req)); ok {
					check("Tell", w)
					gone[w.Req] = true
				}
			case aLook:
				if w, ok := c.Look(number(11, x.req)); ok {
					check("Look", w)
				}
			case aMark:
				c.Mark(x.key)
				for req, k := range key {
					if k == x.key && !gone[req] {
						wasMarked[req] = true
					}
				}
			case aDue:
				check("Due", c.Due(x.now, x.n)...)
			case anOld:
				l := c.Old(x.now, x.n)
				check("Old", l...)
				for _, w := range l {
					gone[w.Req] = true
				}
			case anAll:
				check("All", c.All()...)
			}
		}
		if saw == 0 || saw == told {
			t.Fatalf("seed %d: %d told, %d of them marked", seed, told, saw)
		}
	}
}

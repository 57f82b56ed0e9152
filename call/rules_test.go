package call_test

import (
	"math"
	"slices"
	"testing"

	"buttery/api"
	"buttery/call"
)

// everyCall does every call, with two numbers for all that is a number.
func everyCall(c *call.Calls, i, j int) {
	c.Ask("k", i, j, i)
	c.Ask("", j, i, j)
	c.Ask("", j, i, 5)
	c.Look(i)
	c.Mark("k")
	c.Due(i, j)
	c.All()
	c.Tell(j)
	c.Old(j, i)
}

// R1: no call panics, whatever it is handed, and all end.
func TestWhateverIsHandedIn(t *testing.T) {
	for _, life := range ints() {
		c, err := call.New(life)
		if (err == api.OK) != (c != nil) {
			t.Errorf("New(%d): Calls %v, %v", life, c != nil, err)
		}
		for _, i := range ints() {
			for _, j := range ints() {
				everyCall(c, i, j)
			}
		}
		c.Ask(text("k", 1<<26), 1, 2, 3)
		c.Mark(text("k", 1<<26))
		c.Mark("")
	}
}

// R1: Calls that were not made by the package panic nowhere.
func TestCallsMadeOtherwise(t *testing.T) {
	for _, i := range ints() {
		for _, j := range ints() {
			everyCall(new(call.Calls), i, j)
		}
	}
	c := new(call.Calls)
	for range 2 * maxWaits {
		everyCall(c, 1, 2)
	}
}

// R1: nor do two that were made one of the other by the language's own copying.
func TestCallsCopiedByTheirValue(t *testing.T) {
	c, l := mustHold(t, 6, 10)
	d := *c
	for _, w := range l {
		for _, x := range []*call.Calls{c, &d} {
			for _, y := range []*call.Calls{&d, c} {
				x.Tell(w.Req)
				y.Ask("k", 201, 5, w.First)
				everyCall(x, w.First, 3)
				everyCall(y, w.Req, w.Last)
				x.Old(w.First, 2)
				y.Tell(w.Req + 10)
			}
		}
	}
}

// R1, R4: of nil Ask tells ErrNil, all else nothing, zero and false.
func TestNil(t *testing.T) {
	var c *call.Calls
	for _, i := range ints() {
		mustNotAsk(t, c, i, api.ErrNil)
		mustNotTell(t, c, i)
		for _, j := range ints() {
			mustDue(t, c, i, j)
			mustOld(t, c, i, j)
		}
	}
	for _, key := range keys() {
		mustMark(t, c, key, 0)
	}
	mustStand(t, "nil", c)
}

// R2: Calls do not see one another, of one life neither.
func TestCallsAreApart(t *testing.T) {
	a, b := mustNew(t, 3), mustNew(t, 3)
	v := wait(number(3, 1), "k", 201, 5, 1)
	w := wait(number(3, 1), "k", 202, 6, 2)
	mustAsk(t, a, "k", 201, 5, 1, v.Req)
	mustStand(t, "the other one", b)
	mustAsk(t, b, "k", 202, 6, 2, w.Req)
	mustMark(t, a, "k", 1)
	mustStand(t, "the other one", b, w)
	mustDue(t, b, 9, 3, at(w, 9))
	mustStand(t, "the one", a, marked(v))
	mustOld(t, a, 9, 3, marked(v))
	mustStand(t, "the other one", b, at(w, 9))
	mustTell(t, b, at(w, 9))
	mustAsk(t, a, "k", 201, 5, 1, number(3, 2))
	mustAsk(t, a, "k", 201, 5, 1, number(3, 3))
	mustAsk(t, b, "k", 202, 6, 2, number(3, 2))
}

// R2: the same calls tell the same, whatever was done to others between.
func TestTheSameAgain(t *testing.T) {
	r := row(5)
	var l []act
	for step := range 300 {
		l = append(l, r.act(step/4, step/3, 9))
	}
	var first []answer
	for again := range 5 {
		c := mustNew(t, 4)
		for i, x := range l {
			a := do(c, 4, x)
			if again == 0 {
				first = append(first, a)
			} else if !a.same(first[i]) {
				t.Fatalf("the call %d, %s: %s, at first %s", i, x.text(), shown(a), shown(first[i]))
			}
		}
	}
}

// spoil changes a list, adds to it, and writes behind its end.
func spoil(l []call.Wait) {
	bad := call.Wait{Req: -1, Key: "bad", Client: -2, ID: -3, First: math.MaxInt, Last: math.MaxInt, Marked: true}
	_ = append(l, bad, bad)
	for i := range l {
		l[i] = bad
	}
	l = l[:cap(l)]
	for i := range l {
		l[i] = bad
	}
}

// R3: what was told and is changed then, or added to, changes no later answer.
func TestToldListsAreNew(t *testing.T) {
	for many := range maxWaits + 1 {
		c, l := mustHold(t, 9, many)
		spoil(c.All())
		mustStand(t, "behind a spoilt All", c, l...)
		one, other := c.All(), c.All()
		spoil(one)
		mustList(t, "another All", other, l...)
		due := slices.Clone(l)
		for i := range due {
			due[i].Last = 70
		}
		spoil(c.Due(70, 1))
		mustStand(t, "behind a spoilt Due", c, due...)
		late, keep := due[:(many+1)/2], due[(many+1)/2:]
		spoil(c.Old(70, 71-len(late)))
		mustStand(t, "behind a spoilt Old", c, keep...)
		for i, w := range keep {
			mustTell(t, c, w)
			mustStand(t, "behind a Tell", c, keep[i+1:]...)
		}
		for _, w := range late {
			mustNotTell(t, c, w.Req)
		}
	}
}

// R3: nor does what Look and Tell told.
func TestToldWaitsAreNew(t *testing.T) {
	c, l := mustHold(t, 9, 3)
	w, _ := c.Look(l[1].Req)
	w.Marked, w.Key, w.Last = true, "bad", 99
	mustStand(t, "behind a Look", c, l...)
	mustMark(t, c, "bad", 0)
	mustTell(t, c, l[1])
	mustStand(t, "behind a Tell", c, l[0], l[2])
}

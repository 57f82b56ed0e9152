package call_test

import (
	"slices"
	"testing"

	"buttery/call"
)

// P12.1: Tell tells a wait once, whichever it is of those that wait.
func TestTell(t *testing.T) {
	for _, many := range []int{1, 2, 3, maxWaits} {
		for gone := range many {
			c, l := mustHold(t, 4, many)
			mustTell(t, c, l[gone])
			for range 3 {
				mustNotTell(t, c, l[gone].Req)
			}
			l = slices.Delete(l, gone, gone+1)
			mustStand(t, "one was told", c, l...)
		}
	}
}

// P12.1: Tell of all, in an order that is none of theirs.
func TestTellAll(t *testing.T) {
	r := row(3)
	c, l := mustHold(t, 4, maxWaits)
	for len(l) > 0 {
		i := r.next(len(l))
		mustTell(t, c, l[i])
		mustNotTell(t, c, l[i].Req)
		l = slices.Delete(l, i, i+1)
		mustStand(t, "one was told", c, l...)
	}
}

// P12.1: of numbers that were never given, or that are another life's, nothing waits; to ask
// for them changes nothing.
func TestTellOfOtherNumbers(t *testing.T) {
	for _, life := range []int{1, 2, 1000, maxLife} {
		c, l := mustHold(t, life, 5)
		for _, req := range append(strangers(l), number(life, 0), number(life, 6), number(life, perLife), number(life+1, 0), number(life+1, 1), number(life-1, 1), number(0, 1), number(0, 5)) {
			mustNotTell(t, c, req)
		}
		mustStand(t, "as they were", c, l...)
		mustAsk(t, c, "k", 201, 1, 0, number(life, 6))
	}
}

// P12.1: what is old is told no more.
func TestTellOfOldOnes(t *testing.T) {
	c, l := mustHold(t, 8, 4)
	mustOld(t, c, 10, 9, l[0], l[1])
	mustNotTell(t, c, l[0].Req)
	mustNotTell(t, c, l[1].Req)
	mustTell(t, c, l[3])
	mustStand(t, "one is left", c, l[2])
	mustOld(t, c, 10, 1, l[2])
	for _, w := range l {
		mustNotTell(t, c, w.Req)
	}
	mustStand(t, "none is left", c)
}

// P12.1: Look changes nothing, however often it is asked.
func TestLookChangesNothing(t *testing.T) {
	c, l := mustHold(t, 2, 5)
	mustMark(t, c, l[1].Key, 1)
	l[1].Marked = true
	for range 100 {
		for _, w := range l {
			if got, ok := c.Look(w.Req); got != w || !ok {
				t.Fatalf("Look(%d): %s, %v, want %s", w.Req, shown(got), ok, shown(w))
			}
		}
	}
	mustStand(t, "as they were", c, l...)
	mustOld(t, c, 1000, 1000, l[0])
	mustTell(t, c, l[1])
	mustStand(t, "the rest", c, l[2:]...)
}

// P12.1, P12.2: All, Due and Old tell by rising numbers, whatever went, and in whatever order it
// was asked.
func TestRisingNumbers(t *testing.T) {
	for seed := range 50 {
		r := row(seed)
		c := mustNew(t, 7)
		var l []call.Wait
		for n := 1; n <= 200; n++ {
			w := wait(number(7, n), one(&r, keys()[:4]), 201, n, r.next(20))
			mustAsk(t, c, w.Key, w.Client, w.ID, w.First, w.Req)
			l = append(l, w)
			if len(l) > maxWaits-1 {
				i := r.next(len(l))
				mustTell(t, c, l[i])
				l = slices.Delete(l, i, i+1)
			}
		}
		mustStand(t, "all", c, l...)
		var due, old, left []call.Wait
		for i := range l {
			if l[i].Last <= 10 {
				l[i].Last = 30
				due = append(due, l[i])
			}
			if l[i].First <= 15 {
				old = append(old, l[i])
			} else {
				left = append(left, l[i])
			}
		}
		mustDue(t, c, 30, 20, due...)
		mustStand(t, "behind Due", c, l...)
		mustOld(t, c, 30, 15, old...)
		mustStand(t, "behind Old", c, left...)
	}
}

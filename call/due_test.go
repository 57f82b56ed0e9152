package call_test

import (
	"fmt"
	"math"
	"testing"

	"buttery/call"
)

// P12.2: Mark marks all waits of a key, marked before or not, and no others.
func TestMark(t *testing.T) {
	c := mustNew(t, 3)
	a := wait(number(3, 1), "a", 201, 5, 10)
	b := wait(number(3, 2), "b", 202, 6, 11)
	d := wait(number(3, 3), "a", 203, 7, 12)
	mustMark(t, c, "a", 0)
	mustAsk(t, c, "a", 201, 5, 10, a.Req)
	mustStand(t, "asked behind a Mark", c, a)
	mustAsk(t, c, "b", 202, 6, 11, b.Req)
	mustMark(t, c, "c", 0)
	mustStand(t, "a key that none has", c, a, b)
	mustMark(t, c, "a", 1)
	mustStand(t, "a key that one has", c, marked(a), b)
	mustAsk(t, c, "a", 203, 7, 12, d.Req)
	mustStand(t, "asked behind a Mark of it", c, marked(a), b, d)
	mustMark(t, c, "a", 2)
	mustStand(t, "one was marked before", c, marked(a), b, marked(d))
	mustMark(t, c, "a", 2)
	mustStand(t, "once more", c, marked(a), b, marked(d))
	mustTell(t, c, marked(a))
	mustMark(t, c, "a", 1)
	mustMark(t, c, "b", 1)
	mustTell(t, c, marked(d))
	mustMark(t, c, "a", 0)
	mustStand(t, "one is left", c, marked(b))
}

// P12.2: keys that are nearly alike are others.
func TestMarkOfNearlyAlikeKeys(t *testing.T) {
	for i, key := range keys() {
		c := mustNew(t, 1)
		var l []call.Wait
		for n, k := range append(keys(), key) {
			w := wait(number(1, n+1), k, 201, n, n)
			mustAsk(t, c, k, 201, n, n, w.Req)
			if n == i || n == len(keys()) {
				w.Marked = true
			}
			l = append(l, w)
		}
		mustMark(t, c, key+"?", 0)
		mustMark(t, c, key, 2)
		mustStand(t, "Mark of "+shown(key), c, l...)
	}
}

// P12.2: as many as may be, all of one key.
func TestMarkOfMost(t *testing.T) {
	c := mustNew(t, 1)
	for n := range maxWaits {
		mustAsk(t, c, "k", 201, n, 0, number(1, n+1))
	}
	mustMark(t, c, "", 0)
	mustMark(t, c, "k", maxWaits)
	mustMark(t, c, "k", maxWaits)
	for _, w := range c.All() {
		if !w.Marked {
			t.Fatalf("not marked: %s", shown(w))
		}
	}
}

// P12.2: one below, at and one past what a wait has been waiting for.
func TestDueAtEdges(t *testing.T) {
	for _, first := range []int{0, 1, 10, 1000, math.MaxInt - 100} {
		for _, waited := range []int{1, 2, 3, 99, 100} {
			for every := waited - 1; every <= waited+1; every++ {
				c := mustNew(t, 1)
				w := wait(number(1, 1), "a", 201, 5, first)
				mustAsk(t, c, "a", 201, 5, first, w.Req)
				now := first + waited
				if every < 1 || every > waited {
					mustDue(t, c, now, every)
					mustStand(t, "it is not due", c, w)
					continue
				}
				mustDue(t, c, now, every, at(w, now))
				mustStand(t, "it was due", c, at(w, now))
				mustDue(t, c, now, every)
				mustDue(t, c, now, 1)
				mustStand(t, "it is due no more", c, at(w, now))
			}
		}
	}
}

// P12.2: so also of those that are old; First is what counts, not Last.
func TestOldAtEdges(t *testing.T) {
	for _, first := range []int{0, 1, 10, 1000, math.MaxInt - 100} {
		for _, waited := range []int{1, 2, 3, 99, 100} {
			for most := waited - 1; most <= waited+1; most++ {
				c := mustNew(t, 1)
				w := wait(number(1, 1), "a", 201, 5, first)
				mustAsk(t, c, "a", 201, 5, first, w.Req)
				now := first + waited
				mustDue(t, c, now, 1, at(w, now))
				if most < 1 || most > waited {
					mustOld(t, c, now, most)
					mustStand(t, "it is not old", c, at(w, now))
					continue
				}
				mustOld(t, c, now, most, at(w, now))
				mustStand(t, "it was old", c)
				mustOld(t, c, now, most)
			}
		}
	}
}

// P12.2: a wait is due each so many ticks, behind the tick at which it was told last; its First
// stays.
func TestDueAgain(t *testing.T) {
	c := mustNew(t, 1)
	w := wait(number(1, 1), "a", 201, 5, 3)
	mustAsk(t, c, "a", 201, 5, 3, w.Req)
	told := 0
	for now := 3; now < 60; now++ {
		l := c.Due(now, 4)
		if (now-3)%4 != 0 || now == 3 {
			mustList(t, fmt.Sprint("between, at ", now), l)
			continue
		}
		told++
		mustList(t, fmt.Sprint("at ", now), l, at(w, now))
		mustStand(t, "behind Due", c, at(w, now))
	}
	if told != 14 {
		t.Error("told:", told)
	}
	mustDue(t, c, 70, 4, at(w, 70)) // late: from here on it counts
	mustDue(t, c, 73, 4)
	mustDue(t, c, 74, 4, at(w, 74))
	mustOld(t, c, 74, 72)
	mustOld(t, c, 74, 71, at(w, 74))
}

// P12.2: those that are not told stay as they were.
func TestSomeAreDue(t *testing.T) {
	c, l := mustHold(t, 6, 5) // asked at 0, 1, 2, 3, 4
	mustMark(t, c, l[1].Key, 1)
	mustMark(t, c, l[4].Key, 1)
	l[1].Marked, l[4].Marked = true, true
	l[0].Last, l[1].Last = 9, 9
	mustDue(t, c, 9, 8, l[0], l[1])
	mustStand(t, "two were due", c, l...)
	l[2].Last, l[3].Last, l[4].Last = 10, 10, 10
	mustDue(t, c, 10, 5, l[2], l[3], l[4])
	mustStand(t, "three were due", c, l...)
	mustOld(t, c, 10, 8, l[0], l[1], l[2])
	mustStand(t, "three were old", c, l[3], l[4])
	mustOld(t, c, 10, 1, l[3], l[4])
	mustStand(t, "all were old", c)
}

// P12.2: with every, or most, below 1 there are none, whatever now is.
func TestNoneBelowOne(t *testing.T) {
	c := mustNew(t, 6)
	var l []call.Wait
	for i, now := range []int{0, 1, 10, math.MaxInt} {
		l = append(l, wait(number(6, i+1), "k", 201, i, now))
		mustAsk(t, c, "k", 201, i, now, number(6, i+1))
	}
	for _, now := range ints() {
		for _, n := range []int{0, -1, -2, -10, -math.MaxInt, math.MinInt, math.MinInt + 1} {
			mustDue(t, c, now, n)
			mustOld(t, c, now, n)
		}
	}
	mustStand(t, "as they were", c, l...)
}

// P12.2: where now is below a wait's tick, it is not ago, however far below.
func TestNowBelow(t *testing.T) {
	c := mustNew(t, 6)
	a := wait(number(6, 1), "a", 201, 5, 10)
	b := wait(number(6, 2), "b", 201, 6, math.MaxInt)
	mustAsk(t, c, "a", 201, 5, 10, a.Req)
	mustAsk(t, c, "b", 201, 6, math.MaxInt, b.Req)
	for _, now := range []int{10, 9, 1, 0, -1, -2, -10, -math.MaxInt, math.MinInt, math.MinInt + 1, math.MinInt + 9, math.MinInt + 10, math.MinInt + 11} {
		for _, n := range []int{1, 2, 10, 11, math.MaxInt - 1, math.MaxInt} {
			mustDue(t, c, now, n)
			mustOld(t, c, now, n)
		}
	}
	mustStand(t, "as they were", c, a, b)
	mustDue(t, c, 30, 1, at(a, 30))
	mustDue(t, c, 29, 1) // below its Last, though not below its First
	mustOld(t, c, 9, 1)
	mustOld(t, c, 29, 20)
	mustOld(t, c, 29, 19, at(a, 30))
	mustStand(t, "one is left", c, b)
}

// P12.2: the greatest numbers that there are.
func TestDueAndOldFar(t *testing.T) {
	c := mustNew(t, 6)
	a := wait(number(6, 1), "a", 201, 5, 0)
	b := wait(number(6, 2), "b", 201, 6, 1)
	d := wait(number(6, 3), "c", 201, 7, math.MaxInt-1)
	mustAsk(t, c, "a", 201, 5, 0, a.Req)
	mustAsk(t, c, "b", 201, 6, 1, b.Req)
	mustAsk(t, c, "c", 201, 7, math.MaxInt-1, d.Req)
	mustDue(t, c, math.MaxInt-1, math.MaxInt)
	mustDue(t, c, math.MaxInt, math.MaxInt, at(a, math.MaxInt))
	mustDue(t, c, math.MaxInt, math.MaxInt-1, at(b, math.MaxInt))
	mustDue(t, c, math.MaxInt, 2)
	mustDue(t, c, math.MaxInt, 1, at(d, math.MaxInt))
	mustStand(t, "all were due", c, at(a, math.MaxInt), at(b, math.MaxInt), at(d, math.MaxInt))
	mustDue(t, c, math.MaxInt, 1)
	mustOld(t, c, math.MaxInt-1, math.MaxInt)
	mustOld(t, c, math.MaxInt, math.MaxInt, at(a, math.MaxInt))
	mustOld(t, c, math.MaxInt, math.MaxInt-1, at(b, math.MaxInt))
	mustOld(t, c, math.MaxInt, 2)
	mustOld(t, c, math.MaxInt, 1, at(d, math.MaxInt))
	mustStand(t, "all were old", c)
}

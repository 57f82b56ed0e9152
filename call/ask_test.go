package call_test

import (
	"fmt"
	"math"
	"testing"

	"buttery/api"
	"buttery/call"
)

// P12.1: the lives that may be; of a new one nothing waits, and its numbers begin with 1.
func TestNew(t *testing.T) {
	for _, life := range []int{1, 2, 3, 1000, maxLife - 1, maxLife} {
		c := mustNew(t, life)
		mustStand(t, "a new one", c)
		mustDue(t, c, math.MaxInt, 1)
		mustOld(t, c, math.MaxInt, 1)
		mustMark(t, c, "", 0)
		for n := range 3 {
			mustNotTell(t, c, number(life, n))
		}
		mustAsk(t, c, "a", 201, 5, 0, number(life, 1))
		mustAsk(t, c, "a", 201, 5, 0, number(life, 2))
	}
}

// P12.1: the lives that may not be.
func TestNewRefuses(t *testing.T) {
	for _, life := range []int{0, -1, -2, -maxLife, math.MinInt, math.MinInt + 1, maxLife + 1, maxLife + 2, 2 * maxLife, math.MaxInt - 1, math.MaxInt} {
		if c, err := call.New(life); err != api.ErrArg || c != nil {
			t.Errorf("New(%d): Calls %v, %v, want ErrArg", life, c != nil, err)
		}
	}
}

// P12.1: the numbers go on by one, whether those ahead wait still, were told or are old.
func TestNumbersGoOn(t *testing.T) {
	for _, life := range []int{1, 2, 77, maxLife} {
		c, l := mustHold(t, life, 6)
		mustTell(t, c, l[5])
		mustAsk(t, c, "a", 201, 1, 10, number(life, 7))
		mustTell(t, c, l[0])
		mustAsk(t, c, "b", 202, 2, 11, number(life, 8))
		mustOld(t, c, 11, 9, l[1], l[2])
		mustAsk(t, c, "c", 203, 3, 12, number(life, 9))
		mustStand(t, "some went", c, l[3], l[4],
			wait(number(life, 7), "a", 201, 1, 10), wait(number(life, 8), "b", 202, 2, 11), wait(number(life, 9), "c", 203, 3, 12))
		if n := len(c.Old(1000, 1)); n != 5 {
			t.Fatal("Old:", n)
		}
		mustStand(t, "all went", c)
		mustAsk(t, c, "d", 201, 4, 0, number(life, 10))
	}
}

// P12.1: a wait has what was handed in: keys of any bytes, clients and IDs of any numbers, also
// those of another wait.
func TestAskKeepsWhatItIsHanded(t *testing.T) {
	for i, key := range keys() {
		c := mustNew(t, 5)
		a := wait(number(5, 1), key, ints()[i%len(ints())], ints()[(i*7)%len(ints())], i)
		mustAsk(t, c, key, a.Client, a.ID, i, a.Req)
		b := a
		b.Req = number(5, 2)
		mustAsk(t, c, key, b.Client, b.ID, i, b.Req)
		mustStand(t, "the same twice", c, a, b)
		mustTell(t, c, a)
		mustStand(t, "the other one", c, b)
	}
	for _, client := range ints() {
		for _, id := range ints() {
			c := mustNew(t, 1)
			mustAsk(t, c, "k", client, id, 3, number(1, 1))
			mustStand(t, "a wait", c, wait(number(1, 1), "k", client, id, 3))
		}
	}
}

// P12.1: all keys stand beside one another.
func TestAskOfAllKeys(t *testing.T) {
	c := mustNew(t, 9)
	var l []call.Wait
	for i, key := range keys() {
		l = append(l, wait(number(9, i+1), key, 201, i, i))
		mustAsk(t, c, key, 201, i, i, number(9, i+1))
	}
	mustStand(t, "all keys", c, l...)
}

// P12.1: the ticks at which may be asked, in any order, and those at which may not.
func TestAskAtTicks(t *testing.T) {
	c := mustNew(t, 1)
	var l []call.Wait
	ticks := []int{5, 0, 1, math.MaxInt, 2, math.MaxInt - 1, 0}
	for i, now := range ticks {
		for _, bad := range []int{-1, -2, math.MinInt, math.MinInt + 1} {
			mustNotAsk(t, c, bad, api.ErrArg)
		}
		l = append(l, wait(number(1, i+1), "k", 201, i, now))
		mustAsk(t, c, "k", 201, i, now, number(1, i+1))
		mustStand(t, fmt.Sprint("asked at ", now), c, l...)
	}
}

// P12.1: at most so many wait; what is told, or old, makes room for one more.
func TestAskHasRoom(t *testing.T) {
	c, l := mustHold(t, 3, maxWaits)
	mustStand(t, "as many as may be", c, l...)
	for range 3 {
		mustNotAsk(t, c, 100, api.ErrFull)
		mustStand(t, "behind an Ask that found no room", c, l...)
	}
	more := func(n int) {
		t.Helper()
		w := wait(number(3, n), "more", 201, n, 100)
		mustAsk(t, c, w.Key, w.Client, w.ID, w.First, w.Req)
		l = append(l, w)
		mustNotAsk(t, c, 100, api.ErrFull)
		mustStand(t, "one more", c, l...)
	}
	mustTell(t, c, l[40])
	l = append(l[:40], l[41:]...)
	more(maxWaits + 1)
	mustTell(t, c, l[maxWaits-1])
	l = l[:maxWaits-1]
	more(maxWaits + 2)
	mustOld(t, c, 100, 100, l[0])
	l = l[1:]
	more(maxWaits + 3)
	mustDue(t, c, 100, 99, at(l[0], 100))
	l[0].Last = 100
	c.Look(l[0].Req)
	c.Mark("none")
	mustNotAsk(t, c, 100, api.ErrFull)
	mustStand(t, "those make no room", c, l...)
	c.Old(math.MaxInt, 1)
	for n := range maxWaits {
		mustAsk(t, c, "k", 201, n, 0, number(3, maxWaits+4+n))
	}
	mustNotAsk(t, c, 0, api.ErrFull)
}

// P12.1: an error spends no number.
func TestErrorsSpendNoNumber(t *testing.T) {
	c, l := mustHold(t, 2, maxWaits)
	for range 10 {
		mustNotAsk(t, c, 0, api.ErrFull)
		mustNotAsk(t, c, -1, api.ErrArg)
	}
	mustTell(t, c, l[0])
	for range 10 {
		mustNotAsk(t, c, -1, api.ErrArg)
	}
	mustAsk(t, c, "k", 201, 5, 0, number(2, maxWaits+1))
}

// P12.1: all numbers of a life are given, also the last one, and none behind it; with none left
// that wait, with some, and with as many as may be.
func TestAllNumbers(t *testing.T) {
	for _, x := range []struct{ life, left int }{{1, 0}, {maxLife, 0}, {2, 1}, {3, maxWaits - 1}, {maxLife, maxWaits}} {
		c, l := mustSpend(t, x.life, x.left)
		want := api.ErrExhausted
		if x.left == maxWaits {
			want = api.ErrFull
		}
		for range 3 {
			mustNotAsk(t, c, 7, want)
			mustNotAsk(t, c, math.MaxInt, want)
			mustNotAsk(t, c, -1, api.ErrArg)
			mustStand(t, "all were given", c, l...)
		}
		for len(l) > 0 {
			mustTell(t, c, l[0])
			l = l[1:]
			mustNotAsk(t, c, 7, api.ErrExhausted)
			mustNotAsk(t, c, -1, api.ErrArg)
			mustStand(t, "one was told", c, l...)
		}
		mustNotTell(t, c, number(x.life, 1))
		mustNotTell(t, c, number(x.life, perLife))
		mustNotTell(t, c, number(x.life, perLife+1))
	}
}

// P12.1: of several errors the first one of the chapter's table is answered.
func TestAskErrorsInOrder(t *testing.T) {
	spent, _ := mustSpend(t, 1, 0)
	left, _ := mustSpend(t, 1, 2)
	both, _ := mustSpend(t, 1, maxWaits)
	full, _ := mustHold(t, 1, maxWaits)
	for _, x := range []struct {
		what string
		c    *call.Calls
		want api.Errno
	}{
		{"nil", nil, api.ErrNil},
		{"full", full, api.ErrFull},
		{"spent", spent, api.ErrExhausted},
		{"spent, two wait", left, api.ErrExhausted},
		{"spent and full", both, api.ErrFull},
	} {
		for _, now := range ints() {
			want := x.want
			if now < 0 && x.c != nil {
				want = api.ErrArg
			}
			if req, err := x.c.Ask("k", 201, 1, now); req != 0 || err != want {
				t.Errorf("%s: Ask at %d: %d, %v, want %v", x.what, now, req, err, want)
			}
		}
	}
}

// P12.1: what waits goes on as ever where all numbers were given.
func TestWaitsOfTheLastNumbers(t *testing.T) {
	c, l := mustSpend(t, maxLife, 3)
	if l[2].Req != math.MaxInt32 {
		t.Fatal("the last number of all:", l[2].Req)
	}
	mustMark(t, c, "k", 3)
	for i := range l {
		l[i] = at(marked(l[i]), 9)
	}
	mustDue(t, c, 9, 2, l...)
	mustTell(t, c, l[1])
	mustOld(t, c, 9, 2, l[0], l[2])
	mustStand(t, "all went", c)
	mustNotAsk(t, c, 9, api.ErrExhausted)
}

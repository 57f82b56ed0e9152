package call_test

import (
	"fmt"
	"math"
	"slices"
	"strings"
	"testing"

	"buttery/api"
	"buttery/call"
)

// The chapter's numbers, written out.
const (
	maxWaits = 64
	maxLife  = 2047
	lifeSpan = 1048576
	perLife  = 1048575 // how many numbers are given in a life
)

// number is the number n of a life.
func number(life, n int) int { return life*lifeSpan + n }

// wait is a wait that was asked once, and is not marked.
func wait(req int, key string, client, id, now int) call.Wait {
	return call.Wait{Req: req, Key: key, Client: client, ID: id, First: now, Last: now}
}

// at is a wait with another last tick.
func at(w call.Wait, last int) call.Wait {
	w.Last = last
	return w
}

// marked is a wait that is marked.
func marked(w call.Wait) call.Wait {
	w.Marked = true
	return w
}

// ints are numbers of all kinds.
func ints() []int {
	return []int{math.MinInt, math.MinInt + 1, -201, -2, -1, 0, 1, 2, 5, 101, lifeSpan, lifeSpan + 1, math.MaxInt32, math.MaxInt - 1, math.MaxInt}
}

// keys are keys of any bytes, no two of them alike.
func keys() []string {
	every := make([]byte, 256)
	for i := range every {
		every[i] = byte(i)
	}
	return []string{"", "a", "A", "aa", "ab", "a\x00", "\x00", "\x00\x00", "\xff", "\xff\xff", "\xc3", "\u00e4", " ", string(every), text("k", 32), text("k", 33), text("k", 1<<16)}
}

// text are n bytes, all c.
func text(c string, n int) string { return strings.Repeat(c, n) }

// shown is anything as a text, cut where it is long.
func shown(x any) string {
	s := strings.ReplaceAll(fmt.Sprintf("%+v", x), "call.", "")
	if len(s) > 800 {
		return s[:800] + " .."
	}
	return s
}

// strangers are numbers that none of these waits has.
func strangers(l []call.Wait) []int {
	some := ints()
	for _, w := range l {
		some = append(some, w.Req-1, w.Req+1, w.Req-lifeSpan, w.Req+lifeSpan, -w.Req, w.Req%lifeSpan, w.Req-w.Req%lifeSpan)
	}
	return slices.DeleteFunc(some, func(req int) bool {
		return slices.ContainsFunc(l, func(w call.Wait) bool { return w.Req == req })
	})
}

// mustNew are Calls of a life.
func mustNew(t *testing.T, life int) *call.Calls {
	t.Helper()
	c, err := call.New(life)
	if err != api.OK || c == nil {
		t.Fatalf("New(%d): Calls %v, %v", life, c != nil, err)
	}
	return c
}

// mustAsk asks, and asks which number is answered.
func mustAsk(t *testing.T, c *call.Calls, key string, client, id, now, want int) {
	t.Helper()
	if req, err := c.Ask(key, client, id, now); req != want || err != api.OK {
		t.Fatalf("Ask(%s, %d, %d, %d): %d, %v, want %d", shown(key), client, id, now, req, err, want)
	}
}

// mustNotAsk asks that an Ask at a tick is refused.
func mustNotAsk(t *testing.T, c *call.Calls, now int, want api.Errno) {
	t.Helper()
	if req, err := c.Ask("z", 203, 9, now); req != 0 || err != want {
		t.Fatalf("Ask at %d: %d, %v, want %v", now, req, err, want)
	}
}

// mustTell tells a wait, and asks which it is.
func mustTell(t *testing.T, c *call.Calls, want call.Wait) {
	t.Helper()
	if w, ok := c.Tell(want.Req); w != want || !ok {
		t.Fatalf("Tell(%d): %s, %v, want %s", want.Req, shown(w), ok, shown(want))
	}
}

// mustNotTell asks that no wait of a number is there to be looked at, nor to be told.
func mustNotTell(t *testing.T, c *call.Calls, req int) {
	t.Helper()
	if w, ok := c.Look(req); w != (call.Wait{}) || ok {
		t.Fatalf("Look(%d): %s, %v, want none", req, shown(w), ok)
	}
	if w, ok := c.Tell(req); w != (call.Wait{}) || ok {
		t.Fatalf("Tell(%d): %s, %v, want none", req, shown(w), ok)
	}
}

// mustMark marks the waits of a key, and asks how many they are.
func mustMark(t *testing.T, c *call.Calls, key string, want int) {
	t.Helper()
	if n := c.Mark(key); n != want {
		t.Fatalf("Mark(%s): %d, want %d", shown(key), n, want)
	}
}

// mustList asks which waits are told.
func mustList(t *testing.T, what string, got []call.Wait, want ...call.Wait) {
	t.Helper()
	if !slices.Equal(got, want) {
		t.Fatalf("%s: %s, want %s", what, shown(got), shown(want))
	}
}

// mustDue asks which are due.
func mustDue(t *testing.T, c *call.Calls, now, every int, want ...call.Wait) {
	t.Helper()
	mustList(t, fmt.Sprintf("Due(%d, %d)", now, every), c.Due(now, every), want...)
}

// mustOld asks which are old.
func mustOld(t *testing.T, c *call.Calls, now, most int, want ...call.Wait) {
	t.Helper()
	mustList(t, fmt.Sprintf("Old(%d, %d)", now, most), c.Old(now, most), want...)
}

// mustStand asks which requests wait, by all calls that tell of them.
func mustStand(t *testing.T, what string, c *call.Calls, want ...call.Wait) {
	t.Helper()
	mustList(t, what+": All", c.All(), want...)
	for _, w := range want {
		if got, ok := c.Look(w.Req); got != w || !ok {
			t.Fatalf("%s: Look(%d): %s, %v, want %s", what, w.Req, shown(got), ok, shown(w))
		}
	}
	for _, req := range strangers(want) {
		if got, ok := c.Look(req); got != (call.Wait{}) || ok {
			t.Fatalf("%s: Look(%d): %s, %v, want none", what, req, shown(got), ok)
		}
	}
}

// mustHold are Calls of a life of which the first n numbers were given, each at the tick of its
// place: all of them wait.
func mustHold(t *testing.T, life, n int) (*call.Calls, []call.Wait) {
	t.Helper()
	c := mustNew(t, life)
	var l []call.Wait
	for i := range n {
		w := wait(number(life, i+1), fmt.Sprint("key ", i), 201+i, 1000-i, i)
		mustAsk(t, c, w.Key, w.Client, w.ID, w.First, w.Req)
		l = append(l, w)
	}
	return c, l
}

// mustSpend are Calls of a life of which all numbers were given; the last so many wait.
func mustSpend(t *testing.T, life, left int) (*call.Calls, []call.Wait) {
	t.Helper()
	c := mustNew(t, life)
	var l []call.Wait
	for n := 1; n <= perLife; n++ {
		w := wait(number(life, n), "k", 201, n, 7)
		if req, err := c.Ask(w.Key, w.Client, w.ID, w.First); req != w.Req || err != api.OK {
			t.Fatalf("Ask the number %d of the life %d: %d, %v", n, life, req, err)
		}
		if n > perLife-left {
			l = append(l, w)
		} else if got, ok := c.Tell(w.Req); got != w || !ok {
			t.Fatalf("Tell(%d): %s, %v", w.Req, shown(got), ok)
		}
	}
	return c, l
}

// row are the numbers of a row that hangs on its beginning alone.
type row uint32

// next is a number from 0 on, below n.
func (r *row) next(n int) int {
	*r = *r*1664525 + 1013904223
	return int(*r>>8) % n
}

// one is one of a list.
func one[T any](r *row, l []T) T { return l[r.next(len(l))] }

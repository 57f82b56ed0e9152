package net_test

import (
	"fmt"
	"math"
	"slices"
	"strings"
	"testing"

	"buttery/api"
	"buttery/net"
)

// The chapter's numbers, written out.
const (
	maxPacket  = 400
	maxFlights = 1000
)

// packet is a packet.
func packet(from, to int, data string) net.Packet {
	return net.Packet{From: from, To: to, Data: data}
}

// numbered is a packet by whose sender it is known.
func numbered(i int) net.Packet { return packet(i, -i, fmt.Sprint("data ", i)) }

// packets are packets with the numbers from a on, below b.
func packets(a, b int) []net.Packet {
	var l []net.Packet
	for i := a; i < b; i++ {
		l = append(l, numbered(i))
	}
	return l
}

// text are n bytes, all c.
func text(c string, n int) string { return strings.Repeat(c, n) }

// far are numbers that are no place among n packets.
func far(n int) []int {
	return []int{-1, -2, math.MinInt, math.MinInt + 1, n, n + 1, n + maxFlights, math.MaxInt - 1, math.MaxInt}
}

// ints are numbers of all kinds.
func ints() []int {
	return []int{math.MinInt, math.MinInt + 1, -201, -1, 0, 1, 2, 5, 101, 201, math.MaxInt - 1, math.MaxInt}
}

// shown is anything as a text, cut where it is long.
func shown(x any) string {
	s := strings.ReplaceAll(fmt.Sprintf("%#v", x), "net.", "")
	if len(s) > 500 {
		return s[:500] + " .."
	}
	return s
}

// must asks that a call answered want.
func must(t *testing.T, what string, got, want api.Errno) {
	t.Helper()
	if got != want {
		t.Fatalf("%s: %v, want %v", what, got, want)
	}
}

// mustNew is a new net.
func mustNew(t *testing.T, most int) *net.Net {
	t.Helper()
	n, err := net.New(most)
	if err != api.OK || n == nil {
		t.Fatalf("New(%d): a net %v, %v", most, n != nil, err)
	}
	return n
}

// mustSend sends a packet, and asks what is answered.
func mustSend(t *testing.T, n *net.Net, p net.Packet, want api.Errno) {
	t.Helper()
	if err := n.Send(p.From, p.To, []byte(p.Data)); err != want {
		t.Fatalf("Send(%s): %v, want %v", shown(p), err, want)
	}
}

// mustDouble doubles the packet at a place, and asks what is answered.
func mustDouble(t *testing.T, n *net.Net, i int, want api.Errno) {
	t.Helper()
	if err := n.Double(i); err != want {
		t.Fatalf("Double(%d): %v, want %v", i, err, want)
	}
}

// mustTake takes the packet at a place, and asks which it is.
func mustTake(t *testing.T, n *net.Net, i int, want net.Packet) {
	t.Helper()
	if p, ok := n.Take(i); p != want || !ok {
		t.Fatalf("Take(%d): %s, %v, want %s", i, shown(p), ok, shown(want))
	}
}

// mustNotTake asks that no packet is there to be taken, nor to be looked at.
func mustNotTake(t *testing.T, n *net.Net, i int) {
	t.Helper()
	if p, ok := n.Look(i); p != (net.Packet{}) || ok {
		t.Fatalf("Look(%d): %s, %v, want none", i, shown(p), ok)
	}
	if p, ok := n.Take(i); p != (net.Packet{}) || ok {
		t.Fatalf("Take(%d): %s, %v, want none", i, shown(p), ok)
	}
}

// mustStand asks how a net stands: which packets are under way, by all calls that tell of them,
// and how many found no room.
func mustStand(t *testing.T, what string, n *net.Net, lost int, want ...net.Packet) {
	t.Helper()
	if n.Len() != len(want) || n.Lost() != lost {
		t.Fatalf("%s: Len %d, Lost %d, want %d, %d", what, n.Len(), n.Lost(), len(want), lost)
	}
	if all := n.All(); !slices.Equal(all, want) {
		t.Fatalf("%s: All: %s, want %s", what, shown(all), shown(want))
	}
	for i, p := range want {
		if got, ok := n.Look(i); got != p || !ok {
			t.Fatalf("%s: Look(%d): %s, %v, want %s", what, i, shown(got), ok, shown(p))
		}
	}
	for _, i := range far(len(want)) {
		if got, ok := n.Look(i); got != (net.Packet{}) || ok {
			t.Fatalf("%s: Look(%d): %s, %v, want none", what, i, shown(got), ok)
		}
	}
}

// mustHold is a net for at most so many, on which these packets were sent.
func mustHold(t *testing.T, most int, l ...net.Packet) *net.Net {
	t.Helper()
	n := mustNew(t, most)
	for _, p := range l {
		mustSend(t, n, p, api.OK)
	}
	return n
}

// row are the numbers of a row that hangs on its beginning alone.
type row uint32

// next is a number from 0 on, below n.
func (r *row) next(n int) int {
	*r = *r*1664525 + 1013904223
	return int(*r>>8) % n
}

// one is one of a list.
func one[T any](r *row, l []T) T { return l[r.next(len(l))] }

// packet is a packet that may be; few are mostly drawn, so that they come again.
func (r *row) packet() net.Packet {
	if r.next(3) > 0 {
		return packet(1+r.next(2), 1+r.next(2), one(r, []string{"", "a", "b"}))
	}
	b := make([]byte, r.next(maxPacket+1))
	for i := range b {
		b[i] = byte(r.next(256))
	}
	return packet(one(r, ints()), one(r, ints()), string(b))
}

package net_test

import (
	"slices"
	"testing"

	"buttery/api"
	"buttery/net"
)

// without is a list without what stands at a place, made anew.
func without(l []net.Packet, i int) []net.Packet {
	return slices.Concat(l[:i], l[i+1:])
}

// P10.2: the packet at each place is taken, and those behind it are one place ahead.
func TestTakeAtEachPlace(t *testing.T) {
	for _, many := range []int{1, 2, 3, 4, 9} {
		for i := range many {
			n := mustHold(t, many, packets(0, many)...)
			mustTake(t, n, i, numbered(i))
			mustStand(t, "behind a Take", n, 0, without(packets(0, many), i)...)
		}
	}
	for _, i := range []int{0, 1, 500, 998, 999} {
		n := mustHold(t, maxFlights, packets(0, maxFlights)...)
		mustTake(t, n, i, numbered(i))
		mustStand(t, "behind a Take", n, 0, without(packets(0, maxFlights), i)...)
	}
}

// P10.2: all are taken, one after the other: always the last, the one in the middle, the first.
func TestTakeAll(t *testing.T) {
	for _, at := range []func(n int) int{
		func(n int) int { return 0 },
		func(n int) int { return n / 2 },
		func(n int) int { return n - 1 },
	} {
		left := packets(0, 12)
		n := mustHold(t, 12, left...)
		for len(left) > 0 {
			i := at(len(left))
			mustTake(t, n, i, left[i])
			left = without(left, i)
			mustStand(t, "behind a Take", n, 0, left...)
		}
		mustNotTake(t, n, 0)
	}
}

// P10.2: where there is no such place, nothing is told, and the net stays as it was.
func TestTakeWhereNoneIs(t *testing.T) {
	for _, many := range []int{0, 1, 2, 7} {
		for _, most := range []int{many, many + 1, maxFlights} {
			n := mustHold(t, most, packets(0, many)...)
			for _, i := range far(many) {
				mustNotTake(t, n, i)
				mustStand(t, "behind a Take of none", n, 0, packets(0, many)...)
			}
		}
	}
}

// P10.2: a place that was there is there no more when a packet is taken, though its room is.
func TestPlaceThatWas(t *testing.T) {
	n := mustHold(t, 3, packets(0, 3)...)
	mustTake(t, n, 0, numbered(0))
	mustNotTake(t, n, 2)
	mustDouble(t, n, 2, api.ErrArg)
	mustTake(t, n, 1, numbered(2))
	mustTake(t, n, 0, numbered(1))
	for i := range 3 {
		mustNotTake(t, n, i)
		mustDouble(t, n, i, api.ErrArg)
	}
	mustStand(t, "all taken", n, 0)
}

// P10.2: to take makes room for just one.
func TestTakeMakesRoom(t *testing.T) {
	for _, most := range []int{1, 2, 5} {
		n := mustHold(t, most, packets(0, most)...)
		for i := range most {
			want := without(n.All(), i)
			if _, ok := n.Take(i); !ok {
				t.Fatalf("Take(%d) of %d", i, most)
			}
			mustSend(t, n, numbered(100+i), api.OK)
			mustSend(t, n, numbered(200), api.ErrFull)
			mustStand(t, "behind Take and Send", n, i+1, append(want, numbered(100+i))...)
		}
	}
}

// P10.2: the packet at each place is under way once more, last.
func TestDoubleAtEachPlace(t *testing.T) {
	for _, many := range []int{1, 2, 3, 8, 9} {
		for i := range many {
			n := mustHold(t, many+1, packets(0, many)...)
			mustDouble(t, n, i, api.OK)
			mustStand(t, "behind a Double", n, 0, append(packets(0, many), numbered(i))...)
			mustDouble(t, n, many, api.ErrFull)
			mustStand(t, "of the one that was doubled, without room", n, 1, append(packets(0, many), numbered(i))...)
		}
	}
}

// P10.2: there is nothing to be doubled at other places, whether there is room or not.
func TestDoubleWhereNoneIs(t *testing.T) {
	for _, many := range []int{0, 1, 2, 7} {
		for _, most := range []int{many, many + 1, maxFlights} {
			n := mustHold(t, most, packets(0, many)...)
			for _, i := range far(many) {
				mustDouble(t, n, i, api.ErrArg)
			}
			mustStand(t, "behind Doubles of none", n, 0, packets(0, many)...)
		}
	}
}

// P10.2: on a net that is full a place that is there is told ErrFull, one that is not ErrArg.
func TestDoubleOnFullNet(t *testing.T) {
	for _, most := range []int{1, 2, 7} {
		n := mustHold(t, most, packets(0, most)...)
		for i := range most {
			mustDouble(t, n, i, api.ErrFull)
			mustStand(t, "a Double without room", n, i+1, packets(0, most)...)
			for _, j := range far(most) {
				mustDouble(t, n, j, api.ErrArg)
			}
			mustStand(t, "a Double of none", n, i+1, packets(0, most)...)
		}
	}
}

// P10.2: a packet and the same once more are under way each by itself.
func TestDoubledGoByThemselves(t *testing.T) {
	a, b, c := packet(1, 2, "a"), packet(2, 1, "b"), packet(3, 1, "c")
	n := mustHold(t, 4, a, b)
	mustDouble(t, n, 0, api.OK)
	mustTake(t, n, 0, a)
	mustStand(t, "the first one is taken", n, 0, b, a)
	mustSend(t, n, c, api.OK)
	mustStand(t, "behind a Send", n, 0, b, a, c)
	mustDouble(t, n, 1, api.OK)
	mustStand(t, "the double is doubled", n, 0, b, a, c, a)
	mustTake(t, n, 3, a)
	mustTake(t, n, 1, a)
	mustStand(t, "all of it is taken", n, 0, b, c)
	mustDouble(t, n, 1, api.OK)
	mustTake(t, n, 2, c)
	mustStand(t, "the double is taken", n, 0, b, c)
	mustTake(t, n, 1, c)
	mustStand(t, "and the other one", n, 0, b)
}

// P10.2: a copy is as its net is: what is under way, Lost, and room for as many.
func TestCopyIsAlike(t *testing.T) {
	for _, most := range []int{0, 1, 2, 5, maxFlights} {
		for _, many := range []int{0, most / 2, most} {
			n := mustHold(t, most, packets(0, many)...)
			lost := 0
			for range 2 {
				if many == most {
					mustSend(t, n, numbered(-1), api.ErrFull)
					lost++
				}
			}
			c := n.Copy()
			mustStand(t, "a copy", c, lost, packets(0, many)...)
			for i := many; i < most; i++ {
				mustSend(t, c, numbered(i), api.OK)
			}
			mustSend(t, c, numbered(-2), api.ErrFull)
			mustStand(t, "a copy that is filled", c, lost+1, packets(0, most)...)
			mustStand(t, "its net", n, lost, packets(0, many)...)
		}
	}
}

// P10.2: what is done to the one is not done to the other.
func TestCopyGoesItsOwnWay(t *testing.T) {
	whole := packets(0, 4)
	acts := []struct {
		what string
		do   func(n *net.Net)
		lost int
		left []net.Packet
	}{
		{"Send", func(n *net.Net) { n.Send(9, -9, []byte("data 9")) }, 1, append(packets(0, 4), numbered(9))},
		{"Send without room", func(n *net.Net) { n.Send(9, -9, []byte("data 9")); n.Send(1, 2, nil) }, 2, append(packets(0, 4), numbered(9))},
		{"Double", func(n *net.Net) { n.Double(2) }, 1, append(packets(0, 4), numbered(2))},
		{"Double without room", func(n *net.Net) { n.Double(2); n.Double(0) }, 2, append(packets(0, 4), numbered(2))},
		{"Take of the first", func(n *net.Net) { n.Take(0) }, 1, packets(1, 4)},
		{"Take of the last", func(n *net.Net) { n.Take(3) }, 1, packets(0, 3)},
		{"Take and Send", func(n *net.Net) { n.Take(3); n.Send(9, -9, []byte("data 9")) }, 1, append(packets(0, 3), numbered(9))},
		{"Take of all", func(n *net.Net) { n.Take(0); n.Take(0); n.Take(0); n.Take(0) }, 1, nil},
	}
	for _, one := range acts {
		for _, two := range acts {
			n := mustHold(t, 5, append(packets(0, 4), numbered(8))...)
			mustSend(t, n, numbered(9), api.ErrFull)
			mustTake(t, n, 4, numbered(8))
			c := n.Copy()
			cc := c.Copy()
			one.do(n)
			mustStand(t, "the copy behind "+one.what, c, 1, whole...)
			two.do(c)
			mustStand(t, "the net behind "+one.what+", and its copy's "+two.what, n, one.lost, one.left...)
			mustStand(t, "the copy behind "+two.what, c, two.lost, two.left...)
			mustStand(t, "the copy's copy", cc, 1, whole...)
		}
	}
}

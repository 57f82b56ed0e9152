package net_test

import (
	"math"
	"slices"
	"testing"

	"buttery/api"
	"buttery/net"
)

// P10.1: how many may be under way; a new net has none, and there is room for just so many.
func TestNewOfAsMany(t *testing.T) {
	for _, most := range []int{0, 1, 2, 3, 999, maxFlights} {
		n := mustNew(t, most)
		mustStand(t, "a new net", n, 0)
		for i := range most {
			mustSend(t, n, numbered(i), api.OK)
		}
		mustStand(t, "a full net", n, 0, packets(0, most)...)
		for i := range 3 {
			mustSend(t, n, numbered(most), api.ErrFull)
			mustStand(t, "behind a Send that found no room", n, i+1, packets(0, most)...)
		}
	}
}

// P10.1: no net is for fewer than none, or for more than may be.
func TestNewRefuses(t *testing.T) {
	for _, most := range []int{-1, -2, -maxFlights, math.MinInt, math.MinInt + 1, maxFlights + 1, maxFlights + 2, math.MaxInt - 1, math.MaxInt} {
		if n, err := net.New(most); err != api.ErrArg || n != nil {
			t.Errorf("New(%d): a net %v, %v, want ErrArg", most, n != nil, err)
		}
	}
}

// P10.1: a net for none loses all that is sent.
func TestNetForNone(t *testing.T) {
	n := mustNew(t, 0)
	mustSend(t, n, packet(1, 2, ""), api.ErrFull)
	mustSend(t, n, packet(1, 2, "a"), api.ErrFull)
	mustSend(t, n, packet(1, 2, text("a", maxPacket+1)), api.ErrTooLarge)
	mustDouble(t, n, 0, api.ErrArg)
	mustNotTake(t, n, 0)
	mustStand(t, "a net for none", n, 2)
}

// P10.1: data of each size that may be, and of sizes past it.
func TestSendOfSizes(t *testing.T) {
	n := mustNew(t, maxFlights)
	var want []net.Packet
	for size := range maxPacket + 1 {
		p := packet(1, 2, text("\x00\xffa", size)[:size])
		want = append(want, p)
		mustSend(t, n, p, api.OK)
	}
	mustStand(t, "of all sizes", n, 0, want...)
	for _, size := range []int{maxPacket + 1, maxPacket + 2, 2 * maxPacket, 1 << 16, 1 << 24} {
		mustSend(t, n, packet(1, 2, text("a", size)), api.ErrTooLarge)
	}
	mustStand(t, "behind data that is too long", n, 0, want...)
}

// P10.1: data of any bytes, also of those that are no text; none at all is data, too.
func TestSendOfBytes(t *testing.T) {
	every := make([]byte, 256)
	for i := range every {
		every[i] = byte(i)
	}
	data := []string{"", "\x00", "\xff", "\x00\x00", "\xff\xff", "\x00\xff", "\xff\x00", "a\x00", "\xc3", "\u00e4", string(every), text("\x00", maxPacket), text("\xff", maxPacket)}
	var want []net.Packet
	n := mustNew(t, 2*len(data))
	for _, d := range data {
		mustSend(t, n, packet(1, 2, d), api.OK)
		want = append(want, packet(1, 2, d))
	}
	must(t, "Send of nil", n.Send(1, 2, nil), api.OK)
	mustStand(t, "of any bytes", n, 0, append(want, packet(1, 2, ""))...)
	for i := range 256 {
		one := mustHold(t, 1, packet(1, 2, string([]byte{byte(i)})))
		mustTake(t, one, 0, packet(1, 2, string([]byte{byte(i)})))
	}
}

// P10.1: From and To are any numbers, also those of no node, and one and the same.
func TestSendOfAnyNodes(t *testing.T) {
	n := mustNew(t, maxFlights)
	var want []net.Packet
	for _, from := range ints() {
		for _, to := range ints() {
			p := packet(from, to, "x")
			mustSend(t, n, p, api.OK)
			want = append(want, p)
		}
	}
	mustStand(t, "of any nodes", n, 0, want...)
	for _, p := range want {
		mustTake(t, n, 0, p)
	}
}

// P10.1: on a net that is full data that is too long is told so, and is not counted as lost.
func TestTooLongOnFullNet(t *testing.T) {
	for _, most := range []int{0, 1, 2, 7} {
		n := mustHold(t, most, packets(0, most)...)
		for _, size := range []int{maxPacket + 1, maxPacket + 2, 5000} {
			mustSend(t, n, packet(1, 2, text("\x00", size)), api.ErrTooLarge)
			mustStand(t, "too long on a full net", n, 0, packets(0, most)...)
		}
		mustSend(t, n, packet(1, 2, text("a", maxPacket)), api.ErrFull)
		mustSend(t, n, packet(1, 2, text("a", maxPacket+1)), api.ErrTooLarge)
		mustSend(t, n, packet(1, 2, ""), api.ErrFull)
		mustStand(t, "behind Sends of all sizes", n, 2, packets(0, most)...)
	}
}

// P10.1: a packet that found no room is lost: it does not come when there is room.
func TestLostStaysLost(t *testing.T) {
	n := mustHold(t, 2, packets(0, 2)...)
	mustSend(t, n, numbered(2), api.ErrFull)
	mustDouble(t, n, 1, api.ErrFull)
	mustTake(t, n, 0, numbered(0))
	mustStand(t, "behind a Take", n, 2, numbered(1))
	mustSend(t, n, numbered(3), api.OK)
	mustStand(t, "where there is room again", n, 2, numbered(1), numbered(3))
}

// P10.1: Lost counts what Send and Double refused for want of room, and nothing else.
func TestLostCounts(t *testing.T) {
	n := mustHold(t, 2, numbered(0))
	other := packet(1, 2, text("a", maxPacket+1))
	look := func(what string, lost int, l ...net.Packet) {
		t.Helper()
		mustStand(t, what, n, lost, l...)
	}
	mustSend(t, n, other, api.ErrTooLarge)
	look("data that is too long", 0, numbered(0))
	mustDouble(t, n, 1, api.ErrArg)
	look("a Double of none", 0, numbered(0))
	mustNotTake(t, n, 1)
	look("a Take of none", 0, numbered(0))
	mustDouble(t, n, 0, api.OK)
	look("a Double", 0, numbered(0), numbered(0))
	mustSend(t, n, numbered(1), api.ErrFull)
	look("a Send that found no room", 1, numbered(0), numbered(0))
	mustDouble(t, n, 1, api.ErrFull)
	look("a Double that found no room", 2, numbered(0), numbered(0))
	mustDouble(t, n, 2, api.ErrArg)
	mustSend(t, n, other, api.ErrTooLarge)
	look("other refusals of a full net", 2, numbered(0), numbered(0))
	mustTake(t, n, 1, numbered(0))
	look("a Take", 2, numbered(0))
	mustTake(t, n, 0, numbered(0))
	look("all taken", 2)
	mustNotTake(t, n, 0)
	look("a Take of an empty net", 2)
}

// P10.1: how a net stands behind each call of a row of many.
func TestStandsBehindEachCall(t *testing.T) {
	n := mustNew(t, 3)
	a, b, c := packet(1, 2, "a"), packet(2, 1, ""), packet(101, 1, "c")
	mustStand(t, "New", n, 0)
	mustSend(t, n, a, api.OK)
	mustStand(t, "Send", n, 0, a)
	mustSend(t, n, b, api.OK)
	mustStand(t, "Send", n, 0, a, b)
	mustDouble(t, n, 0, api.OK)
	mustStand(t, "Double", n, 0, a, b, a)
	mustSend(t, n, c, api.ErrFull)
	mustStand(t, "Send", n, 1, a, b, a)
	mustTake(t, n, 1, b)
	mustStand(t, "Take", n, 1, a, a)
	mustSend(t, n, c, api.OK)
	mustStand(t, "Send", n, 1, a, a, c)
	mustTake(t, n, 2, c)
	mustStand(t, "Take", n, 1, a, a)
	n.Copy()
	mustStand(t, "Copy", n, 1, a, a)
	mustTake(t, n, 0, a)
	mustTake(t, n, 0, a)
	mustStand(t, "Take", n, 1)
}

// P10.1: the same packet may be sent as often as there is room.
func TestSameSentAgain(t *testing.T) {
	p := packet(1, 2, "a")
	n := mustHold(t, 4, p, p, p)
	mustStand(t, "three of one", n, 0, p, p, p)
	mustTake(t, n, 1, p)
	mustStand(t, "one taken", n, 0, p, p)
}

// R3: what is handed to Send stays as it was, with the room behind its end, and is not kept.
func TestSentIsNotKept(t *testing.T) {
	room := []byte("abcdef")
	was := slices.Clone(room)
	n := mustNew(t, 3)
	must(t, "Send", n.Send(1, 2, room[:3]), api.OK)
	must(t, "Send", n.Send(1, 2, room[3:]), api.OK)
	must(t, "Send", n.Send(1, 2, room[:0]), api.OK)
	must(t, "Send", n.Send(1, 2, room), api.ErrFull)
	if !slices.Equal(room, was) {
		t.Fatal("Send changed what it was handed")
	}
	want := []net.Packet{packet(1, 2, "abc"), packet(1, 2, "def"), packet(1, 2, "")}
	mustStand(t, "as it was sent", n, 1, want...)
	c := n.Copy()
	for i := range room {
		room[i] = 0xA5
	}
	mustStand(t, "what was handed in is changed", n, 1, want...)
	mustStand(t, "what was handed in is changed, in a copy", c, 1, want...)
	for _, p := range want {
		mustTake(t, n, 0, p)
	}
}

// spoil changes a list, and all that could be added to it.
func spoil(l []net.Packet) {
	l = l[:cap(l)]
	for i := range l {
		l[i] = packet(7, 7, "spoilt")
	}
}

// R3: a list that All told may be changed and added to: no packet changes by that.
func TestToldListIsNew(t *testing.T) {
	for _, many := range []int{0, 1, 2, 3, 5, 8, 9} {
		n := mustHold(t, 9, packets(0, many)...)
		c := n.Copy()
		two := n.All()
		spoil(n.All())
		spoil(c.All())
		if !slices.Equal(two, packets(0, many)) {
			t.Fatal("two lists share memory")
		}
		mustStand(t, "a list is spoilt", n, 0, packets(0, many)...)
		mustStand(t, "a list is spoilt, in a copy", c, 0, packets(0, many)...)
		told := n.All()
		for i := many; i < 9; i++ {
			mustSend(t, n, numbered(i), api.OK)
		}
		spoil(told)
		mustStand(t, "a list is spoilt later", n, 0, packets(0, 9)...)
		mustTake(t, n, 0, numbered(0))
		spoil(n.All())
		spoil(told)
		mustStand(t, "a list is spoilt behind a Take", n, 0, packets(1, 9)...)
	}
}

// R3: a list that was told stays as it is, whatever is done to the net.
func TestToldListStays(t *testing.T) {
	n := mustHold(t, 5, packets(0, 4)...)
	told := n.All()
	mustTake(t, n, 1, numbered(1))
	mustDouble(t, n, 0, api.OK)
	mustSend(t, n, numbered(4), api.OK)
	mustTake(t, n, 0, numbered(0))
	if !slices.Equal(told, packets(0, 4)) {
		t.Fatalf("the list that was told is now %s", shown(told))
	}
}

// Of a nil net nothing is told, and nothing is done.
func TestNilNet(t *testing.T) {
	var n *net.Net
	for _, data := range []string{"", "a", text("a", maxPacket), text("a", maxPacket+1)} {
		for _, at := range ints() {
			mustSend(t, n, packet(at, -at, data), api.ErrNil)
		}
	}
	for _, i := range ints() {
		mustDouble(t, n, i, api.ErrNil)
		mustNotTake(t, n, i)
	}
	must(t, "Send of nil", n.Send(1, 2, nil), api.ErrNil)
	mustStand(t, "a nil net", n, 0)
	if c := n.Copy(); c != nil {
		t.Error("Copy of nil is a net")
	}
}

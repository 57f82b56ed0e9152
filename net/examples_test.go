package net_test

import (
	"slices"
	"testing"

	"buttery/api"
	"buttery/net"
)

// The chapter's example.
func TestExample(t *testing.T) {
	n := mustNew(t, 2)
	mustSend(t, n, packet(1, 2, "a"), api.OK)
	mustSend(t, n, packet(2, 1, "b"), api.OK)
	mustSend(t, n, packet(1, 2, "c"), api.ErrFull)
	if n.Lost() != 1 {
		t.Error("Lost:", n.Lost())
	}
	mustTake(t, n, 0, packet(1, 2, "a"))
	mustDouble(t, n, 0, api.OK)
	mustStand(t, "All", n, 1, packet(2, 1, "b"), packet(2, 1, "b"))
	mustNotTake(t, n, 2)
	mustSend(t, n, packet(1, 2, text("x", 401)), api.ErrTooLarge)
	if n, err := net.New(1001); err != api.ErrArg || n != nil {
		t.Error("New(1001):", err)
	}
}

// The limits are those of the chapter.
func TestLimits(t *testing.T) {
	if api.MaxPacket != maxPacket || api.MaxFlights != maxFlights {
		t.Error(api.MaxPacket, api.MaxFlights)
	}
}

// The example of README.md.
func TestExampleOfReadme(t *testing.T) {
	n, _ := net.New(3)
	n.Send(1, 2, []byte("a"))
	n.Send(2, 1, []byte("b"))
	n.Double(0)
	if err := n.Send(1, 2, []byte("c")); err != api.ErrFull || n.Lost() != 1 {
		t.Error(err, n.Lost())
	}
	if p, ok := n.Take(1); p != packet(2, 1, "b") || !ok {
		t.Error(p, ok)
	}
	c := n.Copy()
	if p, ok := n.Look(1); p != packet(1, 2, "a") || !ok {
		t.Error(p, ok)
	}
	n.Take(0)
	if all := c.All(); !slices.Equal(all, []net.Packet{packet(1, 2, "a"), packet(1, 2, "a")}) {
		t.Error(all)
	}
}

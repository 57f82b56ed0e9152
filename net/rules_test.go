package net_test

import (
	"testing"

	"buttery/api"
	"buttery/net"
)

// R1: no call panics, whatever it is handed, and all end.
func TestWhateverIsHandedIn(t *testing.T) {
	for _, most := range ints() {
		n, err := net.New(most)
		if (err == api.OK) != (n != nil) {
			t.Errorf("New(%d): a net %v, %v", most, n != nil, err)
		}
		for _, i := range ints() {
			for _, j := range ints() {
				n.Send(i, j, []byte("a"))
				n.Send(i, j, nil)
				n.Double(i)
				n.Look(j)
				n.Take(j)
				n.Copy().Take(i)
			}
		}
		n.Send(1, 2, make([]byte, 1<<26))
		n.Len()
		n.Lost()
		n.All()
	}
}

// R1: a net that was not made by the package panics nowhere.
func TestNetMadeOtherwise(t *testing.T) {
	for _, n := range []*net.Net{new(net.Net), new(net.Net).Copy()} {
		for _, i := range ints() {
			n.Send(i, i, []byte("a"))
			n.Double(i)
			n.Look(i)
			n.Take(i)
			n.Copy().Double(i)
		}
		n.Len()
		n.Lost()
		n.All()
	}
}

// R1: nor do two nets that were made one of the other by the language's own copying.
func TestNetCopiedByItsValue(t *testing.T) {
	n := mustHold(t, 6, packets(0, 3)...)
	c := *n
	for range 4 {
		for _, x := range []*net.Net{n, &c} {
			for _, y := range []*net.Net{n, &c} {
				x.Take(0)
				y.Send(1, 2, []byte("a"))
				x.Double(1)
				y.Take(2)
				y.All()
				x.Copy().Take(0)
			}
		}
	}
}

// R2: nets do not see one another.
func TestNetsAreApart(t *testing.T) {
	a, b := mustNew(t, 2), mustNew(t, 3)
	mustSend(t, a, numbered(1), api.OK)
	mustSend(t, a, numbered(2), api.OK)
	mustSend(t, a, numbered(3), api.ErrFull)
	mustStand(t, "the other net", b, 0)
	mustSend(t, b, numbered(4), api.OK)
	mustDouble(t, b, 0, api.OK)
	mustStand(t, "the one net", a, 1, numbered(1), numbered(2))
	mustTake(t, a, 0, numbered(1))
	mustStand(t, "the other net", b, 0, numbered(4), numbered(4))
}

package net_test

import (
	"slices"
	"strconv"
	"testing"

	"buttery/api"
	"buttery/net"
)

// mind is a net in mind: a list that is made anew by each call.
type mind struct {
	most int
	row  []net.Packet
	lost int
}

// Kinds of calls.
const (
	aSend = iota
	aTake
	aDouble
	aCopy // what is done next is done to the copy
)

// call is a call; n is a place.
type call struct {
	kind, n int
	p       net.Packet
}

// text tells a call.
func (x call) text() string {
	s := []string{"Send", "Take", "Double", "Copy"}[x.kind]
	return s + " " + strconv.Itoa(x.n) + " " + shown(x.p)
}

// answer is what a call answers.
type answer struct {
	p   net.Packet
	ok  bool
	err api.Errno
}

// push is a mind in which a packet is under way, last, if there is room.
func (m mind) push(p net.Packet) (mind, answer) {
	if len(m.row) == m.most {
		m.lost++
		return m, answer{err: api.ErrFull}
	}
	m.row = slices.Concat(m.row, []net.Packet{p})
	return m, answer{}
}

// think does a call in mind.
func (m mind) think(x call) (mind, answer) {
	there := 0 <= x.n && x.n < len(m.row)
	switch {
	case x.kind == aSend && len(x.p.Data) > maxPacket:
		return m, answer{err: api.ErrTooLarge}
	case x.kind == aSend:
		return m.push(x.p)
	case x.kind == aDouble && !there:
		return m, answer{err: api.ErrArg}
	case x.kind == aDouble:
		return m.push(m.row[x.n])
	case x.kind == aTake && there:
		p := m.row[x.n]
		m.row = without(m.row, x.n)
		return m, answer{p: p, ok: true}
	}
	return m, answer{}
}

// do does a call to a net.
func do(n *net.Net, x call) (*net.Net, answer) {
	switch x.kind {
	case aSend:
		return n, answer{err: n.Send(x.p.From, x.p.To, []byte(x.p.Data))}
	case aDouble:
		return n, answer{err: n.Double(x.n)}
	case aTake:
		p, ok := n.Take(x.n)
		return n, answer{p: p, ok: ok}
	}
	return n.Copy(), answer{}
}

// play plays calls on a net for at most so many, and in mind, and asks behind each that both
// are alike; and so at last of the nets of which others were made.
func play(t *testing.T, most int, l []call) {
	t.Helper()
	n, m := mustNew(t, most), mind{most: most}
	type other struct {
		n *net.Net
		m mind
	}
	var behind []other
	told := ""
	for _, x := range l {
		told += x.text() + "; "
		if x.kind == aCopy {
			behind = append(behind, other{n, m})
		}
		var got, want answer
		n, got = do(n, x)
		m, want = m.think(x)
		if got != want {
			t.Fatalf("%s: %s, want %s", told, shown(got), shown(want))
		}
		mustStand(t, told, n, m.lost, m.row...)
	}
	for _, o := range behind {
		mustStand(t, told+"what was left behind", o.n, o.m.lost, o.m.row...)
	}
}

// P10.1, P10.2: all rows of five calls, out of some of each kind, on nets for none, one, two
// and three.
func TestAllRowsAsInMind(t *testing.T) {
	some := []call{
		{kind: aSend, p: packet(1, 2, "a")}, {kind: aSend, p: packet(2, 1, "")},
		{kind: aSend, p: packet(1, 2, text("a", maxPacket+1))},
		{kind: aTake, n: -1}, {kind: aTake, n: 0}, {kind: aTake, n: 1}, {kind: aTake, n: 2},
		{kind: aDouble, n: 0}, {kind: aDouble, n: 1},
		{kind: aCopy},
	}
	var grow func(most int, l []call)
	grow = func(most int, l []call) {
		if len(l) == 5 {
			play(t, most, l)
			return
		}
		for _, x := range some {
			grow(most, append(l[:len(l):len(l)], x))
		}
	}
	for most := range 4 {
		grow(most, nil)
	}
}

// anyCall is a call, which may be one that is refused, to a net on which about n are under way.
func (r *row) anyCall(n int) call {
	x := call{n: r.next(n+2) - 1}
	if r.next(12) == 0 {
		x.n = one(r, far(n))
	}
	switch at := r.next(20); {
	case at < 10:
		x.kind, x.p = aSend, r.packet()
		if r.next(12) == 0 {
			x.p.Data = text("z", maxPacket+1+r.next(3))
		}
	case at < 15:
		x.kind = aTake
	case at < 19:
		x.kind = aDouble
	default:
		x.kind = aCopy
	}
	return x
}

// P10.1, P10.2: many long rows of calls, some of which are refused.
func TestLongRowsAsInMind(t *testing.T) {
	for seed := range 300 {
		r := row(seed)
		most := r.next(12)
		var l []call
		for range 100 {
			l = append(l, r.anyCall(most))
		}
		play(t, most, l)
	}
}

// P10.1, P10.2: a long row on a net for as many as may be, which it fills.
func TestLargestNetAsInMind(t *testing.T) {
	r := row(7)
	n, m := mustNew(t, maxFlights), mind{most: maxFlights}
	for step := range 4000 {
		x := r.anyCall(len(m.row))
		if x.kind == aTake && step < 2500 && r.next(2) == 0 {
			x.kind = aDouble
		}
		var got, want answer
		n, got = do(n, x)
		m, want = m.think(x)
		if got != want || n.Len() != len(m.row) || n.Lost() != m.lost {
			t.Fatalf("%s: %s, Len %d, Lost %d, want %s, %d, %d", x.text(), shown(got), n.Len(), n.Lost(), shown(want), len(m.row), m.lost)
		}
	}
	if m.lost == 0 {
		t.Error("the net was never full")
	}
	mustStand(t, "at last", n, m.lost, m.row...)
}

// P10.3: whatever is taken was sent, as it was, and at most as often as it was sent and
// doubled; and what was not lost is taken as often, if all is taken.
func TestNoneComesOfNothing(t *testing.T) {
	for seed := range 300 {
		r := row(seed)
		n := mustNew(t, 1+r.next(30))
		may := map[net.Packet]int{} // how often it was sent and doubled, and not yet taken
		take := func(i int) bool {
			t.Helper()
			p, ok := n.Take(i)
			if ok && may[p] == 0 {
				t.Fatalf("Take(%d): %s, which is not under way", i, shown(p))
			}
			if ok {
				may[p]--
			}
			return ok
		}
		for range 300 {
			switch i := r.next(n.Len()+2) - 1; r.next(5) {
			case 0, 1:
				if p := r.packet(); n.Send(p.From, p.To, []byte(p.Data)) == api.OK {
					may[p]++
				}
			case 2:
				if p, _ := n.Look(i); n.Double(i) == api.OK {
					may[p]++
				}
			default:
				take(i)
			}
		}
		for n.Len() > 0 && take(r.next(n.Len())) {
		}
		for p, left := range may {
			if left != 0 {
				t.Fatalf("%s: %d times not taken", shown(p), left)
			}
		}
	}
}

// P10.4: if always the place 0 is taken, packets come as they were sent, with Sends between.
func TestInOrder(t *testing.T) {
	for seed := range 200 {
		r := row(seed)
		n := mustNew(t, 1+r.next(20))
		next := 0 // the number of the next packet that is sent
		var sent []net.Packet
		for range 300 {
			if r.next(2) == 0 {
				p := numbered(next)
				next++
				if n.Send(p.From, p.To, []byte(p.Data)) == api.OK {
					sent = append(sent, p)
				}
			} else if len(sent) > 0 {
				mustTake(t, n, 0, sent[0])
				sent = sent[1:]
			} else {
				mustNotTake(t, n, 0)
			}
		}
		for _, p := range sent {
			mustTake(t, n, 0, p)
		}
		mustStand(t, "all taken", n, n.Lost())
	}
}

// P10.4: so also of as many as may be, all sent ahead of the first that is taken.
func TestInOrderOfMost(t *testing.T) {
	n := mustHold(t, maxFlights, packets(0, maxFlights)...)
	for i := range maxFlights {
		mustTake(t, n, 0, numbered(i))
		mustSend(t, n, numbered(maxFlights+i), api.OK)
	}
	mustStand(t, "the second thousand", n, 0, packets(maxFlights, 2*maxFlights)...)
	for i := range maxFlights {
		mustTake(t, n, 0, numbered(maxFlights+i))
	}
	mustNotTake(t, n, 0)
}

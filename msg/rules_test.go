package msg_test

import (
	"math"
	"slices"
	"sync"
	"testing"

	"buttery/api"
	"buttery/msg"
)

// anyMessages are messages of any Kind, with anything in them.
func anyMessages() []api.Msg {
	r := row(6)
	var l []api.Msg
	for kind := range 256 {
		m := r.message()
		m.Kind = uint8(kind)
		l = append(l, m, api.Msg{Kind: uint8(kind)})
	}
	for _, x := range growing() {
		l = append(l, x.make(x.most), x.make(x.most+1), x.make(1<<18))
	}
	return append(l,
		api.Msg{Kind: 5, State: text("s", 1<<26)},
		api.Msg{Kind: 5, Op: api.Op{Key: text("k", 1<<26), Value: text("v", 1<<26), Old: text("o", 1<<26)}},
		api.Msg{Kind: 5, List: make([]int, 1<<22)},
		api.Msg{Kind: 5, Entries: slices.Repeat([]api.Entry{{Data: text("d", 1<<20), List: make([]int, 1<<10)}}, 1<<10)},
		api.Msg{Kind: 0, Entries: make([]api.Entry, 1<<18), Pairs: make([]api.Pair, 1<<18), Lasts: make([]api.Last, 1<<18)},
		api.Msg{Kind: 255, Code: math.MinInt, Term: math.MaxInt},
	)
}

// anyBytes are bytes of all kinds.
func anyBytes() [][]byte {
	l := [][]byte{nil, {}, {0}, {8}, {255}, make([]byte, 33), make([]byte, maxBody), make([]byte, maxBody+1), make([]byte, 1<<26)}
	for _, s := range []string{"\xff", "\x80", "\x01", "\x08", "\x7f"} {
		l = append(l, []byte(text(s, 33)), []byte(text(s, maxBody)), []byte(text(s, 1<<20)))
	}
	for _, b := range badCounts() {
		l = append(l, fromHex(b))
	}
	return l
}

// R1: no call panics, whatever it is handed, and all end; R4: with an error nothing is told.
func TestWhateverIsHandedIn(t *testing.T) {
	for _, m := range anyMessages() {
		b, err := msg.Encode(m)
		if (err == api.OK) != (len(b) > 0) || (err == api.ErrArg) != (m.Kind < firstKind || m.Kind > lastKind) {
			t.Fatalf("Encode(%d, ..): %d bytes, %v", m.Kind, len(b), err)
		}
		if twin := msg.Twin(m); !msg.Same(twin, m) {
			t.Fatalf("a twin of the Kind %d", m.Kind)
		}
	}
	for _, b := range anyBytes() {
		mustNotDecode(t, "any", b)
	}
}

// R1: a message with as many lists as it has room for, each of which says to have as many items
// as can be said, or as are left.
func TestDecodeOfManyLists(t *testing.T) {
	for _, size := range [][]byte{{0xFF, 0xFF, 0xFF, 0xFF, 7}, {0x80, 0x20}, {0xFF, 0x3F}, {0x7F}} {
		b := append(bytesOf(3, 21, nil)[:22], size...)
		for len(b) < maxBody-8 {
			b = append(b, 0, 0, 0)
			b = append(b, size...)
		}
		mustDecodeByType(t, "many lists", b)
		mustDecodeByType(t, "many lists", append(b, 0, 0, 0))
	}
}

// R2: the same is answered again, whatever else was asked in between, also at the same time.
func TestAgain(t *testing.T) {
	l := append(crowds(3), crowds(18)...)
	var wait sync.WaitGroup
	for from := range 8 {
		wait.Go(func() {
			for i := range 3 * len(l) {
				x, y := l[(from+i)%len(l)], l[(from*i)%len(l)]
				b, err := msg.Encode(x.m)
				m, other := msg.Decode(y.b)
				if string(b) != string(x.b) || err != api.OK || !msg.Same(m, y.m) || other != api.OK || !msg.Same(msg.Twin(x.m), x.m) {
					t.Errorf("%s, %v; %s, %v", shown(b), err, shown(m), other)
				}
			}
		})
	}
	wait.Wait()
}

// R3: lists are not read beyond their ends.
func TestListsAreReadToTheirEnds(t *testing.T) {
	for _, x := range samples() {
		m := withRoom(x.m)
		mustEncode(t, m, x.b)
		mustDecode(t, roomy(x.b, 0, 1, 2), m)
	}
}

// R5: the errors in the table's order.
func TestOrderOfErrors(t *testing.T) {
	mustNotEncode(t, api.Msg{State: text("s", maxBody)}, api.ErrArg)
	mustNotEncode(t, api.Msg{Kind: 20, List: make([]int, maxBody)}, api.ErrArg)
	mustNotEncode(t, api.Msg{Kind: 19, List: make([]int, maxBody)}, api.ErrTooLarge)
}

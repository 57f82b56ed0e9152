package parts_test

import (
	"math"
	"slices"
	"testing"

	"buttery/api"
	"buttery/parts"
)

// P11.2: New is a joiner without messages.
func TestNew(t *testing.T) {
	mustLen(t, "New", parts.New(), 0)
}

// P11.2: parts in their order, and backwards.
func TestInOrderAndBackwards(t *testing.T) {
	for _, size := range sizes() {
		msg := message(1, size)
		l := mustCut(t, 3, msg)
		back := slices.Clone(l)
		slices.Reverse(back)
		for _, way := range [][][]byte{l, back} {
			j := parts.New()
			for _, p := range way[:len(way)-1] {
				mustWait(t, j, 1, p, 1)
			}
			mustTell(t, j, 1, way[len(way)-1], msg, 0)
		}
	}
}

// orders hands over all orders of a list.
func orders(l [][]byte, do func(l [][]byte)) {
	if len(l) == 0 {
		do(nil)
		return
	}
	for i := range l {
		rest := slices.Concat(l[:i], l[i+1:])
		orders(rest, func(behind [][]byte) { do(slices.Concat(l[i:i+1], behind)) })
	}
}

// P11.2: parts in any order, each of them doubled.
func TestAnyOrder(t *testing.T) {
	msg := message(2, 3*maxData+7)
	orders(mustCut(t, 3, msg), func(l [][]byte) {
		j := parts.New()
		for _, p := range l[:3] {
			mustWait(t, j, 1, p, 1)
			mustWait(t, j, 1, p, 1)
		}
		mustTell(t, j, 1, l[3], msg, 0)
	})
}

// P11.2: a part that is there already stays as it was.
func TestPartStays(t *testing.T) {
	j := parts.New()
	mustWait(t, j, 1, packet(3, 0, 3, text("a", maxData)), 1)
	mustWait(t, j, 1, packet(3, 0, 3, text("b", maxData)), 1)
	mustWait(t, j, 1, packet(3, 2, 3, "c"), 1)
	mustWait(t, j, 1, packet(3, 2, 3, "dd"), 1)
	mustWait(t, j, 1, packet(3, 2, 3, text("\x00", maxData)), 1)
	mustWait(t, j, 1, packet(3, 0, 3, text("\x00", maxData)), 1)
	mustTell(t, j, 1, packet(3, 1, 3, text("e", maxData)), text("a", maxData)+text("e", maxData)+"c", 0)
}

// P11.2: so does one of noughts, which are bytes as any.
func TestPartOfNoughtsStays(t *testing.T) {
	j := parts.New()
	mustWait(t, j, 1, packet(3, 1, 2, "\x00"), 1)
	mustWait(t, j, 1, packet(3, 1, 2, "a"), 1)
	mustTell(t, j, 1, packet(3, 0, 2, text("\x00", maxData)), text("\x00", maxData+1), 0)
}

// P11.2: a message of that sender and number, with another number of parts, is kept no more.
func TestOtherNumberOfParts(t *testing.T) {
	for _, x := range [][2]int{{3, 2}, {2, 3}, {2, 22}, {22, 2}, {22, 21}} {
		j := parts.New()
		mustWait(t, j, 1, packet(3, 0, x[0], text("a", maxData)), 1)
		mustWait(t, j, 1, packet(3, 0, x[1], text("b", maxData)), 1)
		for place := 1; place < x[1]-1; place++ {
			mustWait(t, j, 1, packet(3, place, x[1], text("b", maxData)), 1)
		}
		mustTell(t, j, 1, packet(3, x[1]-1, x[1], "b"), text("b", (x[1]-1)*maxData+1), 0)
		// Of the first one nothing is there any more.
		mustWait(t, j, 1, packet(3, x[0]-1, x[0], "c"), 1)
	}
}

// P11.2: the one that begins so is the last in the row.
func TestOtherNumberOfPartsIsLast(t *testing.T) {
	j := fullJoiner(t)
	mustWait(t, j, 1, packet(0, 0, 3, full()), maxWaits) // the first one begins anew
	mustWait(t, j, 1, packet(99, 0, 2, full()), maxWaits)
	// The second one is gone for it, and begins anew as the last one; the third one is gone for that.
	mustWait(t, j, 1, packet(1, 1, 2, "1"), maxWaits)
	mustWait(t, j, 1, packet(2, 1, 2, "2"), maxWaits)
	for i := 4; i < maxWaits; i++ {
		mustTell(t, j, 1, packet(i, 1, 2, "z"), full()+"z", maxWaits+3-i)
	}
	mustWait(t, j, 1, packet(0, 1, 3, full()), 4)
	mustTell(t, j, 1, packet(0, 2, 3, "z"), full()+full()+"z", 3)
	mustTell(t, j, 1, packet(99, 1, 2, "z"), full()+"z", 2)
	mustTell(t, j, 1, packet(1, 0, 2, full()), full()+"1", 1)
	mustTell(t, j, 1, packet(2, 0, 2, full()), full()+"2", 0)
}

// fullJoiner is a joiner that keeps as many as may be, of the sender 1, with the numbers from
// 0 on as they began; of each the second of two parts is missing.
func fullJoiner(t *testing.T) *parts.Joiner {
	t.Helper()
	j := parts.New()
	for i := range maxWaits {
		mustWait(t, j, 1, packet(i, 0, 2, full()), i+1)
	}
	return j
}

// P11.2: the same number of two senders, and two numbers of one sender, are messages of their
// own; senders are any numbers.
func TestSendersAndNumbers(t *testing.T) {
	for _, a := range ints() {
		for _, b := range ints() {
			if a == b {
				continue
			}
			j := parts.New()
			mustWait(t, j, a, packet(3, 0, 2, text("a", maxData)), 1)
			mustWait(t, j, b, packet(3, 0, 2, text("b", maxData)), 2)
			mustTell(t, j, a, packet(3, 1, 2, "x"), text("a", maxData)+"x", 1)
			mustTell(t, j, b, packet(3, 1, 2, "y"), text("b", maxData)+"y", 0)
		}
	}
	for _, a := range numbers() {
		for _, b := range numbers() {
			if a == b {
				continue
			}
			j := parts.New()
			mustWait(t, j, 1, packet(a, 1, 2, "a"), 1)
			mustWait(t, j, 1, packet(b, 1, 2, "b"), 2)
			mustTell(t, j, 1, packet(b, 0, 2, full()), full()+"b", 1)
			mustTell(t, j, 1, packet(a, 0, 2, full()), full()+"a", 0)
		}
	}
}

// P11.2: who sends and the number are not turned about.
func TestSenderIsNotNumber(t *testing.T) {
	j := parts.New()
	mustWait(t, j, 1, packet(2, 0, 2, text("a", maxData)), 1)
	mustWait(t, j, 2, packet(1, 0, 2, text("b", maxData)), 2)
	mustTell(t, j, 1, packet(2, 1, 2, "x"), text("a", maxData)+"x", 1)
	mustTell(t, j, 2, packet(1, 1, 2, "y"), text("b", maxData)+"y", 0)
}

// P11.2: of a message of one part nothing is kept, and no other one goes for it, even if as
// many are kept as may be.
func TestOnePartAmongOthers(t *testing.T) {
	j := fullJoiner(t)
	for _, msg := range []string{"", "a", full()} {
		mustTell(t, j, 1, packet(99, 0, 1, msg), msg, maxWaits)
		mustTell(t, j, 2, packet(0, 0, 1, msg), msg, maxWaits)
	}
	for i := range maxWaits {
		mustTell(t, j, 1, packet(i, 1, 2, "z"), full()+"z", maxWaits-1-i)
	}
}

// P11.2: a message of one part, of the sender and number of one that is kept: that one goes.
func TestOnePartOfTheSameNumber(t *testing.T) {
	for _, msg := range []string{"", "a", full()} {
		j := fullJoiner(t)
		mustTell(t, j, 1, packet(5, 0, 1, msg), msg, maxWaits-1)
		mustWait(t, j, 1, packet(5, 1, 2, "z"), maxWaits)
		mustWait(t, j, 1, packet(99, 0, 2, full()), maxWaits)
		mustWait(t, j, 1, packet(0, 1, 2, "0"), maxWaits) // it was gone; now the second one is
		mustTell(t, j, 1, packet(2, 1, 2, "z"), full()+"z", maxWaits-1)
		mustTell(t, j, 1, packet(5, 0, 2, full()), full()+"z", maxWaits-2)
		mustTell(t, j, 1, packet(0, 0, 2, full()), full()+"0", maxWaits-3)
		mustWait(t, j, 1, packet(1, 1, 2, "z"), maxWaits-2)
	}
}

// P11.2: if as many are kept as may be, and one more begins, the one that began first goes;
// and it begins anew when a part of it comes again.
func TestOneMore(t *testing.T) {
	j := fullJoiner(t)
	mustWait(t, j, 1, packet(maxWaits, 0, 2, full()), maxWaits)
	for i := 1; i <= maxWaits; i++ {
		mustTell(t, j, 1, packet(i, 1, 2, "z"), full()+"z", maxWaits-i)
	}
	mustWait(t, j, 1, packet(0, 1, 2, "new"), 1)
	mustTell(t, j, 1, packet(0, 0, 2, full()), full()+"new", 0)
}

// P11.2: which began first hangs on when it began, not on its number, its sender, nor on when
// a part of it came last.
func TestFirstIsTheOneThatBeganFirst(t *testing.T) {
	j := parts.New()
	for i := range maxWaits {
		mustWait(t, j, 100-i, packet(50-i, 0, 3, full()), i+1)
	}
	mustWait(t, j, 100, packet(50, 1, 3, full()), maxWaits)
	mustWait(t, j, 100, packet(50, 0, 3, full()), maxWaits)
	mustWait(t, j, 1, packet(1, 0, 3, full()), maxWaits)
	// Of the one that began first nothing is there: its last part begins it anew, and the second one goes.
	mustWait(t, j, 100, packet(50, 2, 3, "z"), maxWaits)
	mustWait(t, j, 99, packet(49, 2, 3, "z"), maxWaits)
	mustWait(t, j, 97, packet(47, 1, 3, full()), maxWaits)
	mustTell(t, j, 97, packet(47, 2, 3, "z"), full()+full()+"z", maxWaits-1)
}

// P11.2: all that were kept go, one after the other, if others keep coming.
func TestManyMore(t *testing.T) {
	j := parts.New()
	for i := range 10 * maxWaits {
		mustWait(t, j, i%3, packet(i, 0, 2, full()), min(i+1, maxWaits))
	}
	for i := 10*maxWaits - 1; i >= 9*maxWaits; i-- {
		mustTell(t, j, i%3, packet(i, 1, 2, "z"), full()+"z", i-9*maxWaits)
	}
}

// P11.2: one that was told makes room, and a part of it that comes again begins it anew, last.
func TestToldBeginsAnew(t *testing.T) {
	j := fullJoiner(t)
	mustTell(t, j, 1, packet(0, 1, 2, "a"), full()+"a", maxWaits-1)
	mustWait(t, j, 1, packet(0, 1, 2, "b"), maxWaits)
	mustWait(t, j, 1, packet(99, 0, 2, full()), maxWaits)              // for it the second one goes
	mustTell(t, j, 1, packet(0, 0, 2, full()), full()+"b", maxWaits-1) // not the one that began anew
	mustWait(t, j, 1, packet(1, 1, 2, "z"), maxWaits)
	mustTell(t, j, 1, packet(2, 1, 2, "z"), full()+"z", maxWaits-1)
}

// P11.2: a message of one part that comes again is told again.
func TestOnePartAgain(t *testing.T) {
	j := parts.New()
	for range 3 {
		mustTell(t, j, 1, packet(3, 0, 1, "ab"), "ab", 0)
		mustTell(t, j, 1, packet(3, 0, 1, ""), "", 0)
	}
}

// P11.2, R3: a packet is not changed, nor read behind its end; changed when it was handed in,
// it changes nothing.
func TestPacketIsNotKept(t *testing.T) {
	for _, size := range sizes() {
		j, msg := parts.New(), message(6, size)
		l := cut(3, msg)
		for i, p := range l {
			in := roomy(p)
			if i == len(l)-1 {
				told := mustTell(t, j, 1, in, msg, 0)
				was := in[:cap(in)]
				if string(in) != string(p) || string(was[len(p):len(p)+50]) != text("\xaa", 50) {
					t.Fatalf("%d bytes: the packet %d has changed", size, i)
				}
				spoil(in)
				if string(told) != msg {
					t.Fatalf("%d bytes: the message hangs on the packet", size)
				}
				continue
			}
			mustWait(t, j, 1, in, 1)
			if string(in) != string(p) || string(in[:cap(in)][len(p):len(p)+50]) != text("\xaa", 50) {
				t.Fatalf("%d bytes: the packet %d has changed", size, i)
			}
			spoil(in)
		}
	}
}

// P11.2, R3: a message that was told and is changed changes no later answer, nor a packet.
func TestToldIsApart(t *testing.T) {
	for _, size := range sizes() {
		j, msg := parts.New(), message(7, size)
		for range 3 {
			l := cut(3, msg)
			for _, p := range l[1:] {
				mustWait(t, j, 1, p, 1)
			}
			told := mustTell(t, j, 1, l[0], msg, 0)
			spoil(told)
			_ = append(told, "behind"...)
			if !slices.EqualFunc(l, cut(3, msg), slices.Equal) {
				t.Fatalf("%d bytes: the message, changed, changes a packet", size)
			}
		}
	}
}

// P11.2: of a nil joiner.
func TestNilJoiner(t *testing.T) {
	var j *parts.Joiner
	for _, p := range [][]byte{nil, []byte("x"), packet(3, 0, 1, "a"), packet(3, 0, 2, full()), frame(2, nil)} {
		for _, from := range []int{0, 1, math.MinInt} {
			mustNotTake(t, j, from, p, api.ErrNil)
		}
	}
	mustLen(t, "nil", j, 0)
}

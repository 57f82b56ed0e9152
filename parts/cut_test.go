package parts_test

import (
	"math"
	"slices"
	"testing"

	"buttery/api"
	"buttery/code"
	"buttery/parts"
	"buttery/seal"
)

// sizes are lengths of messages that may be, at the edges too.
func sizes() []int {
	return []int{0, 1, 2, maxData - 1, maxData, maxData + 1, 2*maxData - 1, 2 * maxData, 2*maxData + 1,
		21*maxData - 1, 21 * maxData, 21*maxData + 1, maxBody - 1, maxBody}
}

// numbers are numbers of messages that may be, at the edges too.
func numbers() []int {
	return []int{0, 1, 127, 128, 16383, 16384, 1<<20 + 1, 1<<28 - 1, 1 << 28, maxCount - 1, maxCount}
}

// P11.1: the packets of a message's parts, in their order, as the chapter says; messages of
// the bytes 0 and 255 among them.
func TestCut(t *testing.T) {
	for _, size := range sizes() {
		for _, number := range numbers() {
			for _, msg := range []string{text("\x00", size), text("\xff", size), message(size, size)} {
				mustCut(t, number, msg)
			}
		}
	}
}

// P11.1: how many packets there are.
func TestHowManyPackets(t *testing.T) {
	for _, x := range []struct{ size, want int }{
		{0, 1}, {1, 1}, {379, 1}, {380, 1}, {381, 2}, {760, 2}, {761, 3}, {7980, 21}, {7981, 22}, {8191, 22}, {8192, 22},
	} {
		if l := mustCut(t, 1, message(1, x.size)); len(l) != x.want {
			t.Errorf("%d bytes: %d packets, want %d", x.size, len(l), x.want)
		}
	}
}

// P11.1: the packets of "ab", with the number 300, byte by byte.
func TestPacketByHand(t *testing.T) {
	got := mustCut(t, 300, "ab")[0]
	want := []byte{1, 7, 0, 0xac, 2, 0, 1, 2, 'a', 'b'}
	if len(got) != 14 || string(got[:10]) != string(want) {
		t.Errorf("% x", got)
	}
}

// P11.1: seal.Open and package code's reader tell a packet again, and nothing stands behind.
func TestPacketsAreReadAgain(t *testing.T) {
	for _, size := range sizes() {
		msg := message(3, size)
		l := mustCut(t, 12345, msg)
		told := ""
		for i, p := range l {
			kind, b, err := seal.Open(p)
			r := code.NewReader(b)
			number, place, many := r.Count(maxCount), r.Count(maxCount), r.Count(maxCount)
			told += r.Str(maxData)
			if kind != 1 || err != api.OK || number != 12345 || place != i || many != len(l) || !r.Done() {
				t.Fatalf("%d bytes, the packet %d: kind %d, %v, %d, %d, %d, Done %v", size, i, kind, err, number, place, many, r.Done())
			}
		}
		if told != msg {
			t.Fatalf("%d bytes: other ones", size)
		}
	}
}

// P11.1: which messages are not cut; a number that may not be is told ahead of the length.
func TestNotCut(t *testing.T) {
	for _, number := range []int{-1, -2, math.MinInt, math.MinInt + 1} {
		for _, size := range []int{0, 1, maxBody, maxBody + 1, 100000} {
			mustNotCut(t, number, size, api.ErrArg)
		}
	}
	if math.MaxInt > maxCount {
		for _, size := range []int{0, 1, maxBody, maxBody + 1, 100000} {
			past := maxCount
			past++
			mustNotCut(t, past, size, api.ErrArg)
			mustNotCut(t, math.MaxInt, size, api.ErrArg)
		}
	}
	for _, number := range numbers() {
		mustNotCut(t, number, maxBody+1, api.ErrTooLarge)
		mustNotCut(t, number, 100000, api.ErrTooLarge)
	}
}

// P11.1, R3: the message that is handed in is not changed, nor read behind its end.
func TestCutLeavesTheMessage(t *testing.T) {
	for _, size := range sizes() {
		msg := message(4, size)
		in := roomy([]byte(msg))
		l, err := parts.Cut(9, in)
		if want := cut(9, msg); err != api.OK || !slices.EqualFunc(l, want, slices.Equal) {
			t.Fatalf("%d bytes: %v, other packets", size, err)
		}
		if string(in) != msg || string(in[:cap(in)][size:size+50]) != text("\xaa", 50) {
			t.Fatalf("%d bytes: the message has changed", size)
		}
	}
}

// P11.1, R3: packets that were told, and are changed and added to, change no other one, nor
// the message, nor a later answer; and of the message that is changed then none hangs.
func TestPacketsAreApart(t *testing.T) {
	for _, size := range sizes() {
		msg := message(5, size)
		in := []byte(msg)
		l, _ := parts.Cut(9, in)
		again, _ := parts.Cut(9, in)
		want := cut(9, msg)
		for i := range l {
			spoil(l[i])
			l[i] = append(l[i], "behind"...)
			for k := i + 1; k < len(l); k++ {
				if string(l[k]) != string(want[k]) {
					t.Fatalf("%d bytes: the packet %d, changed, changes the packet %d", size, i, k)
				}
			}
		}
		if string(in) != msg {
			t.Fatalf("%d bytes: packets, changed, change the message", size)
		}
		spoil(in)
		if !slices.EqualFunc(again, want, slices.Equal) {
			t.Fatalf("%d bytes: the other packets have changed", size)
		}
		mustCut(t, 9, msg)
		if l[0] = nil; again[0] == nil {
			t.Fatalf("%d bytes: two answers are one list", size)
		}
	}
}

// P11.4: no packet of any message has more than MaxPacket bytes.
func TestSmall(t *testing.T) {
	most := 0
	msg := []byte(text("\xff", maxBody))
	for size := range maxBody + 1 {
		l, err := parts.Cut(maxCount, msg[:size])
		if err != api.OK {
			t.Fatalf("%d bytes: %v", size, err)
		}
		for _, p := range l {
			most = max(most, len(p))
		}
	}
	if most > maxPacket || most != 396 {
		t.Errorf("the longest packet has %d bytes", most)
	}
}

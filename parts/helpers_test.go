package parts_test

import (
	"encoding/binary"
	"fmt"
	"hash/crc32"
	"math"
	"slices"
	"strings"
	"testing"

	"buttery/api"
	"buttery/parts"
)

// The chapter's numbers, written out.
const (
	maxData   = 380
	maxParts  = 22
	maxWaits  = 16
	maxPacket = 400
	maxBody   = 8192
	maxCount  = 2147483647
	lastOfAll = 212 // bytes of the last part of the longest message
)

// frame is a frame, by hand.
func frame(kind byte, body []byte) []byte {
	b := []byte{kind, byte(len(body)), byte(len(body) >> 8)}
	b = append(b, body...)
	return binary.LittleEndian.AppendUint32(b, crc32.ChecksumIEEE(b))
}

// body is a packet's body, by hand, whatever its numbers are.
func body(number, place, many uint64, data string) []byte {
	var b []byte
	for _, n := range []uint64{number, place, many, uint64(len(data))} {
		b = binary.AppendUvarint(b, n)
	}
	return append(b, data...)
}

// packet is a packet, by hand, of a part that there may be or not.
func packet(number, place, many int, data string) []byte {
	return frame(1, body(uint64(number), uint64(place), uint64(many), data))
}

// cut are a message's packets, by hand.
func cut(number int, msg string) [][]byte {
	if msg == "" {
		return [][]byte{packet(number, 0, 1, "")}
	}
	var pieces []string
	for rest := msg; rest != ""; {
		n := min(maxData, len(rest))
		pieces = append(pieces, rest[:n])
		rest = rest[n:]
	}
	var l [][]byte
	for place, piece := range pieces {
		l = append(l, packet(number, place, len(pieces), piece))
	}
	return l
}

// text are n bytes, all c.
func text(c string, n int) string { return strings.Repeat(c, n) }

// message is a message of n bytes, no two parts of which are alike; seeds make others.
func message(seed, n int) string {
	r := row(seed)
	b := make([]byte, n)
	for i := range b {
		b[i] = byte(r.next(256))
	}
	return string(b)
}

// ints are numbers of all kinds.
func ints() []int {
	return []int{math.MinInt, math.MinInt + 1, -201, -1, 0, 1, 2, 5, 101, 201, maxCount - 1, maxCount, math.MaxInt - 1, math.MaxInt}
}

// roomy are bytes behind whose end others stand.
func roomy(b []byte) []byte {
	all := append(slices.Clone(b), text("\xaa", 50)...)
	return all[:len(b)]
}

// spoil changes bytes, and those that stand behind their end.
func spoil(b []byte) {
	for i := range b {
		b[i] ^= 0xff
	}
	b = b[len(b):cap(b)]
	for i := range b {
		b[i] ^= 0xff
	}
}

// shown is anything as a text, cut where it is long.
func shown(x any) string {
	s := fmt.Sprintf("%#v", x)
	if b, ok := x.([]byte); ok {
		s = fmt.Sprintf("%d bytes % x", len(b), b)
	}
	if len(s) > 500 {
		return s[:500] + " .."
	}
	return s
}

// mustCut cuts a message, and asks that its packets are those made by hand.
func mustCut(t *testing.T, number int, msg string) [][]byte {
	t.Helper()
	got, err := parts.Cut(number, []byte(msg))
	if err != api.OK {
		t.Fatalf("Cut(%d, %d bytes): %v", number, len(msg), err)
	}
	want := cut(number, msg)
	if len(got) != len(want) {
		t.Fatalf("Cut(%d, %d bytes): %d packets, want %d", number, len(msg), len(got), len(want))
	}
	for i := range want {
		if string(got[i]) != string(want[i]) {
			t.Fatalf("Cut(%d, %d bytes): the packet %d: %s, want %s", number, len(msg), i, shown(got[i]), shown(want[i]))
		}
	}
	return got
}

// mustNotCut asks that a message is not cut.
func mustNotCut(t *testing.T, number, size int, want api.Errno) {
	t.Helper()
	if got, err := parts.Cut(number, make([]byte, size)); len(got) != 0 || err != want {
		t.Fatalf("Cut(%d, %d bytes): %d packets, %v, want %v", number, size, len(got), err, want)
	}
}

// mustLen asks how many messages are kept.
func mustLen(t *testing.T, what string, j *parts.Joiner, want int) {
	t.Helper()
	if j.Len() != want {
		t.Fatalf("%s: Len %d, want %d", what, j.Len(), want)
	}
}

// mustWait takes a packet behind which nothing is told, and asks how many are kept then.
func mustWait(t *testing.T, j *parts.Joiner, from int, packet []byte, kept int) {
	t.Helper()
	msg, whole, err := j.Take(from, packet)
	if len(msg) != 0 || whole || err != api.OK {
		t.Fatalf("Take(%d, %s): %s, %v, %v, want nothing", from, shown(packet), shown(msg), whole, err)
	}
	mustLen(t, "Take", j, kept)
}

// mustTell takes a packet behind which a message is told, and asks how many are kept then.
func mustTell(t *testing.T, j *parts.Joiner, from int, packet []byte, want string, kept int) []byte {
	t.Helper()
	msg, whole, err := j.Take(from, packet)
	if string(msg) != want || !whole || err != api.OK {
		t.Fatalf("Take(%d, %s): %s, %v, %v, want %s", from, shown(packet), shown(msg), whole, err, shown([]byte(want)))
	}
	mustLen(t, "Take", j, kept)
	return msg
}

// mustNotTake asks that a packet is refused, and that as many are kept behind it as ahead.
func mustNotTake(t *testing.T, j *parts.Joiner, from int, packet []byte, want api.Errno) {
	t.Helper()
	kept := j.Len()
	msg, whole, err := j.Take(from, packet)
	if len(msg) != 0 || whole || err != want {
		t.Fatalf("Take(%d, %s): %s, %v, %v, want %v", from, shown(packet), shown(msg), whole, err, want)
	}
	mustLen(t, "a refused Take", j, kept)
}

// row are the numbers of a row that hangs on its beginning alone.
type row uint32

// next is a number from 0 on, below n.
func (r *row) next(n int) int {
	*r = *r*1664525 + 1013904223
	return int(*r>>8) % n
}

// one is one of a list.
func one[T any](r *row, l []T) T { return l[r.next(len(l))] }

// turned are the things of a list in another order.
func turned[T any](r *row, l []T) []T {
	l = slices.Clone(l)
	for i := range l {
		k := i + r.next(len(l)-i)
		l[i], l[k] = l[k], l[i]
	}
	return l
}

package parts_test

import (
	"slices"
	"testing"

	"buttery/api"
	"buttery/parts"
	"buttery/seal"
)

// held is a joiner that keeps three messages of two senders, and what is left of their packets
// to come, with what is told then.
type held struct {
	j    *parts.Joiner
	from []int
	last [][]byte
	msgs []string
}

// keepThree is such a joiner. Of each of the messages the part at the place 1 is missing.
func keepThree(t *testing.T) held {
	t.Helper()
	h := held{j: parts.New(), from: []int{1, 1, 2}, msgs: []string{message(1, 1000), message(2, maxBody), message(3, 381)}}
	for i, number := range []int{5, 6, 5} {
		l := cut(number, h.msgs[i])
		for place, p := range l {
			if place != 1 {
				mustWait(t, h.j, h.from[i], p, i+1)
			}
		}
		h.last = append(h.last, l[1])
	}
	return h
}

// mustStill asks that each of them still comes, and that nothing else is kept.
func (h held) mustStill(t *testing.T) {
	t.Helper()
	mustLen(t, "three are kept", h.j, 3)
	for i, p := range h.last {
		mustTell(t, h.j, h.from[i], p, h.msgs[i], 2-i)
	}
}

// P11.2: what seal.Open refuses is refused as it says, and changes nothing.
func TestFramesThatAreRefused(t *testing.T) {
	h := keepThree(t)
	some := slices.Concat(cut(5, ""), cut(5, "ab"), cut(5, message(1, 400)), cut(maxCount, message(1, 381)))
	var broken [][]byte
	for _, p := range some {
		for i := range p {
			for _, bits := range []byte{1, 0x80, 0xff} {
				b := slices.Clone(p)
				b[i] ^= bits
				broken = append(broken, b)
			}
			broken = append(broken, p[:i], p[i+1:])
		}
		broken = append(broken, append(slices.Clone(p), 0), append(slices.Clone(p), p...), append([]byte{1}, p...))
	}
	broken = append(broken, nil, []byte("x"), make([]byte, 7), make([]byte, maxBody+8), frame(1, make([]byte, maxBody+1)))
	sums := 0
	for i, b := range broken {
		_, _, want := seal.Open(b)
		if want == api.OK {
			want = api.ErrForm // a whole frame that is no packet: of seven noughts, say
		}
		if want == api.ErrSum {
			sums++
		}
		mustNotTake(t, h.j, i%3, b, want)
	}
	if sums < 100 || sums > len(broken)-100 {
		t.Errorf("of %d frames %d have a wrong sum", len(broken), sums)
	}
	h.mustStill(t)
}

// P11.2: whole frames of other kinds are refused, whatever their bodies are.
func TestOtherKinds(t *testing.T) {
	h := keepThree(t)
	for kind := range 256 {
		if kind == 1 {
			continue
		}
		mustNotTake(t, h.j, 1, frame(byte(kind), body(5, 1, 3, text("a", maxData))), api.ErrForm)
		mustNotTake(t, h.j, 2, frame(byte(kind), body(5, 1, 2, "a")), api.ErrForm)
		mustNotTake(t, h.j, 1, frame(byte(kind), body(7, 0, 1, "ab")), api.ErrForm)
		mustNotTake(t, h.j, 1, frame(byte(kind), nil), api.ErrForm)
	}
	h.mustStill(t)
}

// full is a part's bytes where another one follows.
func full() string { return text("f", maxData) }

// badBodies are bodies of no packet that may be, the numbers and senders of which are those of
// messages that are kept.
func badBodies() [][]byte {
	l := [][]byte{
		nil, {5}, {5, 0}, {5, 0, 1}, // something is missing
		body(5, 0, 0, ""), body(5, 0, 0, "a"), body(5, 0, 0, full()), body(5, 1, 0, "a"), // no parts
		body(5, 0, maxParts+1, full()), body(5, maxParts, maxParts+1, "a"), body(5, 0, 1<<31-1, full()), // more than may be
		body(5, 0, 1<<31, full()), body(5, 0, 1<<63, full()), body(5, 0, 1<<64-1, full()),
		body(5, 1, 1, ""), body(5, 1, 1, "a"), body(5, 2, 1, "a"), body(5, 1<<31-1, 1, "a"), // no such place
		body(5, 2, 2, full()), body(5, 2, 2, "a"), body(5, 3, 2, full()), body(5, maxParts, maxParts, "a"),
		body(5, 1<<31-1, 3, full()), body(5, 1<<31, 3, full()), body(5, 1<<63, 3, full()), body(5, 1<<64-1, 3, full()),
		body(5, 0, 2, ""), body(5, 0, 2, "a"), body(5, 0, 2, full()[1:]), body(5, 0, 2, full()+"a"), // not the last one
		body(5, 1, 3, ""), body(5, 1, 3, full()[1:]), body(5, 1, 3, full()+"a"),
		body(5, 20, maxParts, full()[1:]), body(5, 20, maxParts, full()+"a"),
		body(5, 1, 2, ""), body(5, 1, 2, full()+"a"), body(5, 2, 3, ""), body(5, 2, 3, text("a", 1000)), // the last of several
		body(5, 20, 21, ""), body(5, 20, 21, full()+"a"), body(5, 21, 22, ""),
		body(5, 0, 1, full()+"a"), body(5, 0, 1, text("a", 1000)), body(5, 0, 1, text("a", maxBody-10)), // one alone
		body(5, 21, maxParts, text("a", lastOfAll+1)), body(5, 21, maxParts, full()), // more than MaxBody in all
		body(5, 21, maxParts, full()[1:]), body(5, 21, maxParts, full()+"a"),
		body(1<<31, 0, 1, "a"), body(1<<32, 0, 1, "a"), body(1<<63, 0, 1, "a"), body(1<<64-1, 0, 1, "a"), // no number
		body(1<<32+5, 1, 3, full()), body(1<<31+5, 1, 3, full()),
		{0x85, 0, 0, 1, 1, 'a'}, {5, 0x80, 0, 1, 1, 'a'}, {5, 0, 0x81, 0, 1, 'a'}, {5, 0, 1, 0x81, 0, 'a'}, // a byte more than needed
		{5, 0, 1, 2, 'a'}, {5, 0, 1, 0x80}, {0x80}, {0x80, 0x80, 0x80, 0x80, 0x80, 0x80, 0x80, 0x80, 0x80, 0x80, 0x80, 0x80},
	}
	for _, b := range [][]byte{body(5, 0, 1, ""), body(5, 0, 1, "ab"), body(5, 1, 3, full()), body(5, 1, 2, "a")} {
		l = append(l, append(slices.Clone(b), 0), append(slices.Clone(b), b...)) // something stands behind the text
		for i := range b {
			l = append(l, b[:i])
		}
	}
	return l
}

// P11.2: whole frames whose bodies are no packets that may be are refused, and change nothing.
func TestBodiesThatAreRefused(t *testing.T) {
	h := keepThree(t)
	for _, from := range []int{1, 2, 3} {
		for _, b := range badBodies() {
			mustNotTake(t, h.j, from, frame(1, b), api.ErrForm)
		}
	}
	h.mustStill(t)
	for _, b := range badBodies() {
		mustNotTake(t, parts.New(), 1, frame(1, b), api.ErrForm)
	}
}

// P11.2: nor does a joiner that keeps as many as may be let one go for what is refused.
func TestRefusedTakesNoRoom(t *testing.T) {
	j := parts.New()
	for i := range maxWaits {
		mustWait(t, j, i, packet(7, 0, 2, full()), i+1)
	}
	for _, b := range badBodies() {
		mustNotTake(t, j, 99, frame(1, b), api.ErrForm)
		mustNotTake(t, j, 0, frame(1, b), api.ErrForm)
		mustNotTake(t, j, 0, frame(1, b)[1:], api.ErrForm)
	}
	for i := range maxWaits {
		mustTell(t, j, i, packet(7, 1, 2, "a"), full()+"a", maxWaits-i-1)
	}
}

// P11.2: one part alone, with as few and as many bytes as may be, and any number that may be.
func TestOnePartAlone(t *testing.T) {
	j := parts.New()
	for _, number := range numbers() {
		for _, size := range []int{0, 1, 2, maxData - 1, maxData} {
			mustTell(t, j, 1, packet(number, 0, 1, message(1, size)), message(1, size), 0)
		}
		mustNotTake(t, j, 1, packet(number, 0, 1, message(1, maxData+1)), api.ErrForm)
	}
}

// P11.2: the last part of several, with as few and as many bytes as may be, of all counts of parts.
func TestLastPart(t *testing.T) {
	for many := 2; many <= maxParts; many++ {
		most := maxData
		if many == maxParts {
			most = lastOfAll
		}
		for _, size := range []int{1, 2, most - 1, most} {
			j, msg := parts.New(), message(many, (many-1)*maxData+size)
			l := cut(8, msg)
			for _, p := range l[1:] {
				mustWait(t, j, 1, p, 1)
			}
			mustTell(t, j, 1, l[0], msg, 0)
		}
		mustNotTake(t, parts.New(), 1, packet(8, many-1, many, text("a", most+1)), api.ErrForm)
		mustNotTake(t, parts.New(), 1, packet(8, many-1, many, ""), api.ErrForm)
		mustNotTake(t, parts.New(), 1, packet(8, many, many, "a"), api.ErrForm)
	}
}

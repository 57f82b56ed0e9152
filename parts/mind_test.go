package parts_test

import (
	"fmt"
	"strings"
	"testing"

	"buttery/api"
	"buttery/parts"
)

// piece is a part of some message.
type piece struct {
	number, place, many int
	data                string
}

// packet is its packet.
func (p piece) packet() []byte { return packet(p.number, p.place, p.many, p.data) }

// waiting is a message in mind, of which some parts are there: the first pieces that came of it.
type waiting struct {
	from   int
	pieces []piece
}

// mind is a joiner in mind: a list of what waits, made anew by each call.
type mind []waiting

// without is the list without the message of a sender and a number.
func (m mind) without(from, number int) mind {
	var l mind
	for _, w := range m {
		if w.from != from || w.pieces[0].number != number {
			l = append(l, w)
		}
	}
	return l
}

// find is the message of a sender and a number, with as many parts.
func (m mind) find(from int, p piece) (int, bool) {
	for i, w := range m {
		if w.from == from && w.pieces[0].number == p.number && w.pieces[0].many == p.many {
			return i, true
		}
	}
	return 0, false
}

// think takes a part in mind; what is told is a list of one message, or of none.
func (m mind) think(from int, p piece) (mind, []string) {
	if p.many == 1 {
		return m.without(from, p.number), []string{p.data}
	}
	i, ok := m.find(from, p)
	if !ok {
		m = m.without(from, p.number)
		if len(m) == maxWaits {
			m = m[1:]
		}
		return append(m[:len(m):len(m)], waiting{from, []piece{p}}), nil
	}
	data := make([]string, p.many)
	for _, q := range m[i].pieces {
		if q.place == p.place {
			return m, nil
		}
		data[q.place] = q.data
	}
	data[p.place] = p.data
	all := append([]piece{p}, m[i].pieces...)
	if len(all) == p.many {
		return m.without(from, p.number), []string{strings.Join(data, "")}
	}
	l := append(mind{}, m...)
	l[i] = waiting{from, all}
	return l, nil
}

// come is a part that comes from someone.
type come struct {
	from int
	p    piece
	bad  int // what is wrong with its packet; 0: nothing
}

// bytes are what comes.
func (c come) bytes() []byte {
	b := c.p.packet()
	switch c.bad {
	case 1:
		b[len(b)/2] ^= 4
	case 2:
		b = b[:len(b)-1]
	case 3:
		p := c.p
		p.place = p.many
		b = p.packet()
	}
	return b
}

// wrong is what is answered to what comes.
func (c come) wrong() api.Errno {
	return []api.Errno{api.OK, api.ErrSum, api.ErrForm, api.ErrForm}[c.bad]
}

// text tells what comes.
func (c come) text() string {
	return fmt.Sprintf("from %d: number %d, %d of %d, %d bytes %.3q, bad %d; ", c.from, c.p.number, c.p.place, c.p.many, len(c.p.data), c.p.data, c.bad)
}

// play lets parts come, to a joiner and in mind, and asks behind each that both are alike; at
// last, that each message that is kept in mind comes, with the parts that came of it.
func play(t *testing.T, l []come) {
	t.Helper()
	j, m, told := parts.New(), mind(nil), ""
	step := func(c come) {
		t.Helper()
		told += c.text()
		if c.bad != 0 {
			mustNotTake(t, j, c.from, c.bytes(), c.wrong())
			return
		}
		var want []string
		m, want = m.think(c.from, c.p)
		msg, whole, err := j.Take(c.from, c.bytes())
		if err != api.OK || whole != (len(want) == 1) || string(msg) != strings.Join(want, "") || j.Len() != len(m) {
			t.Fatalf("%s: %s, %v, %v, Len %d, want %d messages, %s, Len %d", told, shown(msg), whole, err, j.Len(), len(want), shown([]byte(strings.Join(want, ""))), len(m))
		}
	}
	for _, c := range l {
		step(c)
	}
	for len(m) > 0 {
		w := m[len(m)/2]
		for _, p := range w.missing() {
			step(come{from: w.from, p: p})
		}
	}
}

// missing are parts for the places at which none is there.
func (w waiting) missing() []piece {
	there := map[int]bool{}
	for _, p := range w.pieces {
		there[p.place] = true
	}
	var l []piece
	for place := range w.pieces[0].many {
		p := piece{w.pieces[0].number, place, w.pieces[0].many, full()}
		if place == p.many-1 {
			p.data = "z"
		}
		if !there[place] {
			l = append(l, p)
		}
	}
	return l
}

// P11.2: all rows of four parts, out of some of two senders and two numbers, alone, of two and
// of three, some of which are refused.
func TestAllRowsAsInMind(t *testing.T) {
	a, b := text("a", maxData), text("b", maxData)
	some := []come{
		{from: 1, p: piece{5, 0, 1, ""}}, {from: 1, p: piece{5, 0, 1, "s"}},
		{from: 1, p: piece{5, 0, 2, a}}, {from: 1, p: piece{5, 0, 2, b}}, {from: 1, p: piece{5, 1, 2, "c"}}, {from: 1, p: piece{5, 1, 2, a}},
		{from: 1, p: piece{5, 0, 3, a}}, {from: 1, p: piece{5, 1, 3, b}}, {from: 1, p: piece{5, 2, 3, "d"}},
		{from: 1, p: piece{6, 0, 2, b}}, {from: 1, p: piece{6, 1, 2, "e"}},
		{from: 2, p: piece{5, 0, 2, b}}, {from: 2, p: piece{5, 1, 2, "f"}}, {from: 2, p: piece{5, 0, 1, "g"}},
		{from: 1, p: piece{5, 1, 2, "h"}, bad: 1}, {from: 1, p: piece{5, 0, 2, a}, bad: 2}, {from: 1, p: piece{5, 0, 3, a}, bad: 3},
	}
	var grow func(l []come)
	grow = func(l []come) {
		if len(l) == 4 {
			play(t, l)
			return
		}
		for _, c := range some {
			grow(append(l[:len(l):len(l)], c))
		}
	}
	grow(nil)
}

// piece is a part of one of few messages, so that most come again; places is how many parts a
// message has at most.
func (r *row) piece(messages, places int) piece {
	p := piece{number: r.next(messages), many: 1 + r.next(places)}
	if r.next(4) > 0 {
		p.many = 2 + p.number%max(1, places-1) // mostly that of its number
	}
	p.place = r.next(p.many)
	p.data = text(one(r, []string{"a", "b", "\x00", "\xff"}), maxData)
	switch {
	case p.many == 1:
		p.data = p.data[:r.next(maxData+1)]
	case p.place == maxParts-1:
		p.data = p.data[:1+r.next(lastOfAll)]
	case p.place == p.many-1:
		p.data = p.data[:1+r.next(maxData)]
	}
	return p
}

// P11.2: many long rows of parts of a few messages, or of more than are kept, some of which
// are refused.
func TestLongRowsAsInMind(t *testing.T) {
	for seed := range 400 {
		r := row(seed)
		messages, places := one(&r, []int{1, 3, 8, 20, 60}), one(&r, []int{2, 3, 5, maxParts})
		var l []come
		for range 300 {
			c := come{from: r.next(2), p: r.piece(messages, places)}
			if r.next(15) == 0 {
				c.bad = 1 + r.next(3)
			}
			l = append(l, c)
		}
		play(t, l)
	}
}

// sent is a message that was cut, what is to come of it, and which places were there.
type sent struct {
	from, number int
	msg          string
	there        map[int]bool
	many         int
}

// P11.3: drawn messages, their packets in drawn orders, doubled, among those of others: each is
// told just as it was cut, at the first moment at which all its parts were there.
func TestWhole(t *testing.T) {
	for seed := range 300 {
		r := row(seed)
		j := parts.New()
		var all []sent
		for i := range 1 + r.next(maxWaits) {
			size := one(&r, []int{0, 1, maxData, maxData + 1, r.next(2000), r.next(maxBody + 1), maxBody})
			all = append(all, sent{from: i % 3, number: i / 3, msg: message(r.next(1000), size), there: map[int]bool{}})
		}
		type under struct{ i, place int }
		var way []under
		packets := make([][][]byte, len(all))
		for i := range all {
			packets[i] = mustCut(t, all[i].number, all[i].msg)
			all[i].many = len(packets[i])
			for place := range packets[i] {
				way = append(way, under{i, place})
			}
		}
		for _, u := range turned(&r, way) {
			s := &all[u.i]
			for range 1 + r.next(2) {
				s.there[u.place] = true
				msg, whole, err := j.Take(s.from, packets[u.i][u.place])
				want := len(s.there) == s.many
				if err != api.OK || whole != want || want && string(msg) != s.msg || !want && len(msg) > 0 {
					t.Fatalf("seed %d, message %d, place %d: %s, %v, %v, want %v", seed, u.i, u.place, shown(msg), whole, err, want)
				}
				if want {
					break // what comes of it then begins it anew
				}
			}
		}
		mustLen(t, "all were told", j, 0)
	}
}

// P11.5: whatever comes, in whatever order: what is told was pieced together of parts of one
// sender, one number and one count of parts, that came.
func TestNothingElse(t *testing.T) {
	for seed := range 200 {
		r := row(seed)
		j := parts.New()
		came := map[string]bool{}
		told := 0
		for range 400 {
			from, p := r.next(2), r.piece(12, 4)
			came[fmt.Sprint(from, p)] = true
			msg, whole, _ := j.Take(from, p.packet())
			if !whole {
				continue
			}
			told++
			for place := range p.many {
				piece := piece{p.number, place, p.many, string(msg[place*maxData : min((place+1)*maxData, len(msg))])}
				if !came[fmt.Sprint(from, piece)] {
					t.Fatalf("seed %d: told of %d: %s: the part %d never came", seed, from, shown(msg), place)
				}
			}
			if len(msg) > p.many*maxData {
				t.Fatalf("seed %d: %d bytes of %d parts", seed, len(msg), p.many)
			}
		}
		if told == 0 {
			t.Fatalf("seed %d: nothing was told", seed)
		}
	}
}

package msg_test

import (
	"reflect"
	"slices"
	"strings"
	"testing"

	"buttery/api"
	"buttery/msg"
)

func (r *row) flag() bool { return r.next(2) == 1 }

func (r *row) num() int {
	if r.flag() {
		return r.next(300) - 150
	}
	return one(r, ints())
}

func (r *row) kind() uint8 { return one(r, []uint8{0, 1, 2, 3, 19, 127, 128, 255}) }

// text is a text, now and then a long one.
func (r *row) text() string {
	n := one(r, []int{0, 0, 0, 1, 1, 2, 3, 32, 127, 128})
	if r.next(100) == 0 {
		n = r.next(9000)
	}
	b := make([]byte, n)
	for i := range b {
		b[i] = byte(r.next(256))
	}
	return string(b)
}

// some are a few things, now and then many.
func some[T any](r *row, thing func() T) []T {
	n := max(0, r.next(8)-4)
	if r.next(200) == 0 {
		n = r.next(1000)
	}
	var l []T
	for range n {
		l = append(l, thing())
	}
	return l
}

func (r *row) result() api.Result {
	return api.Result{Kind: r.kind(), Found: r.flag(), Value: r.text()}
}

func (r *row) entry() api.Entry {
	return api.Entry{Term: r.num(), Kind: r.kind(), Data: r.text(), List: some(r, r.num)}
}

func (r *row) pair() api.Pair { return api.Pair{Key: r.text(), Value: r.text()} }

func (r *row) last() api.Last { return api.Last{Client: r.num(), ID: r.num(), Result: r.result()} }

func (r *row) command() api.Command {
	return api.Command{Kind: r.kind(), Shard: r.num(), Store: r.num(), Epoch: r.num()}
}

// message is a message of a Kind that there is.
func (r *row) message() api.Msg {
	m := api.Msg{Kind: uint8(firstKind + r.next(lastKind))}
	parts := []func(){
		func() { m.Shard, m.Epoch, m.Owner = r.num(), r.num(), r.num() },
		func() { m.Req, m.Client, m.ID = r.num(), r.num(), r.num() },
		func() { m.Op = api.Op{Kind: r.kind(), Key: r.text(), Value: r.text(), Old: r.text(), Had: r.flag()} },
		func() { m.Code, m.Result = api.Errno(r.num()), r.result() },
		func() { m.Grant, m.Term, m.Index, m.PrevTerm = r.num(), r.num(), r.num(), r.num() },
		func() { m.Commit, m.Granted, m.Part, m.Last = r.num(), r.flag(), r.num(), r.flag() },
		func() { m.Entries = some(r, r.entry) },
		func() { m.List = some(r, r.num) },
		func() { m.State = r.text() },
		func() { m.Pairs = some(r, r.pair) },
		func() { m.Lasts = some(r, r.last) },
		func() { m.Command = r.command() },
	}
	for _, draw := range parts {
		if r.flag() {
			draw()
		}
	}
	return m
}

// mustGoBack asks that a message that may be is read of its bytes, and one that is too long has
// none; whether it may be.
func mustGoBack(t *testing.T, m api.Msg) bool {
	t.Helper()
	b := lay(m)
	if len(b) > maxBody {
		mustNotEncode(t, m, api.ErrTooLarge)
		mustNotDecode(t, "too many", b)
		return false
	}
	n := mustDecode(t, mustEncode(t, m, b), m)
	mustBeSame(t, "what was read", m, n, true)
	return true
}

// P13.3: of drawn messages, what is read of their bytes is the same.
func TestBackOfDrawnMessages(t *testing.T) {
	r, long := row(1), 0
	for range 20000 {
		if m := r.message(); !mustGoBack(t, m) {
			long++
		}
	}
	if long < 100 {
		t.Errorf("just %d messages were too long", long)
	}
}

// turned are bytes some of which were turned, left out, put in, taken once more or changed with
// one another.
func (r *row) turned(b []byte) []byte {
	b = slices.Clone(b)
	small := []byte{0, 1, 2, 3, 19, 20, 127, 128, 129, 255}
	for range 1 + r.next(3) {
		i, k := r.next(len(b)+1), r.next(len(b)+1)
		x := one(r, small)
		switch {
		case len(b) == 0 || r.next(6) == 0:
			b = slices.Insert(b, i, x)
		case i == len(b) || k == len(b):
			b = append(b, x)
		case r.next(5) == 0:
			b[i] ^= 1 << r.next(8)
		case r.next(4) == 0:
			b[i] = x
		case r.next(3) == 0:
			b = slices.Delete(b, i, min(i+1+r.next(3), len(b)))
		case r.flag():
			b[i], b[k] = b[k], b[i]
		default:
			b = slices.Insert(b, k, slices.Clone(b[i:min(i+1+r.next(4), len(b))])...)
		}
	}
	return b
}

// mustGoBackToBytes draws bytes many times, and asks that they are read just if they are a
// message's, and that what was read has just these bytes.
func mustGoBackToBytes(t *testing.T, draw func() []byte) {
	t.Helper()
	read, refused := 0, 0
	for range 100000 {
		b := draw()
		if !mustDecodeByType(t, "drawn", b) {
			refused++
			continue
		}
		read++
		m, _ := msg.Decode(b)
		mustEncode(t, m, b)
	}
	if read < 10000 || refused < 10000 {
		t.Errorf("%d were read, %d refused", read, refused)
	}
}

// P13.3: of what drawn messages' bytes became, what is read has just these bytes.
func TestBackOfTurnedBytes(t *testing.T) {
	r := row(2)
	mustGoBackToBytes(t, func() []byte { return r.turned(lay(r.message())) })
}

// likely are drawn bytes that often are a message's.
func (r *row) likely() []byte {
	b := make([]byte, 25+r.next(20))
	for i := range b {
		b[i] = one(r, []byte{0, 0, 0, 0, 0, 0, 0, 0, 0, 0, 0, 0, 0, 0, 0, 1, 1, 1, 2, 128})
	}
	b[0] = byte(1 + r.next(20))
	if r.next(4) == 0 {
		return b
	}
	var m api.Msg
	b = append(b, make([]byte, 60)...)
	rest, _ := unlayThing(b, reflect.ValueOf(&m).Elem())
	return b[:len(b)-len(rest)]
}

// P13.3: of drawn bytes, many of which are a message's.
func TestBackOfDrawnBytes(t *testing.T) {
	r := row(3)
	mustGoBackToBytes(t, r.likely)
}

// P13.1: of bytes of all kinds, however many.
func TestDecodeOfAnyBytes(t *testing.T) {
	r := row(4)
	for range 20000 {
		b := make([]byte, r.next(200))
		for i := range b {
			b[i] = byte(r.next(256))
		}
		mustDecodeByType(t, "any", b)
	}
}

// alikeMessages are two messages that are the same, or nearly so.
func (r *row) alikeMessages(all []field) (api.Msg, api.Msg) {
	a := r.message()
	b := cloned(a)
	switch r.next(5) {
	case 0:
		return a, b
	case 1:
		if l := changes(a); len(l) > 0 {
			one(r, l)(&b)
			return a, b
		}
	case 2:
		b.Kind = uint8(firstKind + r.next(lastKind))
		return a, b
	}
	values := one(r, all).values
	one(r, values).set(&b)
	if r.flag() {
		one(r, values).set(&a)
	}
	return a, b
}

// P13.4: two messages have the same bytes just if they are the same.
func TestUnlike(t *testing.T) {
	r, all, same, others := row(5), fields(), 0, 0
	for range 30000 {
		a, b := r.alikeMessages(all)
		x, err := msg.Encode(a)
		y, other := msg.Encode(b)
		if err != api.OK || other != api.OK {
			mustBeSame(t, "long ones", a, b, string(lay(a)) == string(lay(b)))
			continue
		}
		mustBeSame(t, "drawn ones", a, b, string(x) == string(y))
		if alike(a, b) != (string(x) == string(y)) {
			t.Fatalf("%s and %s have the bytes %s and %s", shown(a), shown(b), shown(x), shown(y))
		}
		if string(x) == string(y) {
			same++
		} else {
			others++
		}
	}
	if same < 3000 || others < 3000 {
		t.Errorf("%d were the same, %d not", same, others)
	}
}

// P13.4: what stands in one text does not stand in the next one, nor items of one list in
// another one.
func TestUnlikeThoughTheirTextsJoinAlike(t *testing.T) {
	var l []api.Msg
	for i := range 5 {
		s := "abcd"
		l = append(l, api.Msg{Kind: 8, Op: api.Op{Key: s[:i], Value: s[i:]}})
		l = append(l, api.Msg{Kind: 8, Op: api.Op{Value: s[:i], Old: s[i:]}})
		l = append(l, api.Msg{Kind: 8, Pairs: []api.Pair{{Key: s[:i], Value: s[i:]}}})
		l = append(l, api.Msg{Kind: 8, Pairs: []api.Pair{{Key: s[:i]}, {Key: s[i:]}}})
		l = append(l, api.Msg{Kind: 8, Entries: []api.Entry{{List: make([]int, i)}, {List: make([]int, 4-i)}}})
		l = append(l, api.Msg{Kind: 8, Entries: []api.Entry{{List: make([]int, i)}}, List: make([]int, 4-i)})
		l = append(l, api.Msg{Kind: 8, Entries: make([]api.Entry, i), Pairs: make([]api.Pair, i), Lasts: make([]api.Last, 4-i)})
	}
	for _, a := range l {
		for _, b := range l {
			same := string(lay(a)) == string(lay(b))
			mustBeSame(t, "joined alike", a, b, same)
			if alike(a, b) != same {
				t.Fatalf("%s, %s", shown(a), shown(b))
			}
		}
		mustGoBack(t, a)
	}
	if n := strings.Count(string(lay(l[0])), "abcd"); n != 1 {
		t.Error(n)
	}
}

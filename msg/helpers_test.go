package msg_test

import (
	"encoding/binary"
	"encoding/hex"
	"fmt"
	"math"
	"reflect"
	"slices"
	"strings"
	"testing"

	"buttery/api"
	"buttery/msg"
)

// The chapter's numbers, written out.
const (
	firstKind = 1
	lastKind  = 19
	maxBody   = 8192
	maxCount  = 2147483647
)

// lay are the bytes of a message, whatever it is, by what its type is made of: the chapter's
// fields have the type's order.
func lay(m api.Msg) []byte { return layThing(nil, reflect.ValueOf(m)) }

func layThing(b []byte, v reflect.Value) []byte {
	switch v.Kind() {
	case reflect.Int:
		return binary.AppendVarint(b, v.Int())
	case reflect.Uint8:
		return binary.AppendUvarint(b, v.Uint())
	case reflect.Bool:
		return append(b, map[bool]byte{true: 1}[v.Bool()])
	case reflect.String:
		return append(binary.AppendUvarint(b, uint64(v.Len())), v.String()...)
	case reflect.Slice:
		b = binary.AppendUvarint(b, uint64(v.Len()))
		for i := range v.Len() {
			b = layThing(b, v.Index(i))
		}
		return b
	case reflect.Struct:
		for i := range v.NumField() {
			b = layThing(b, v.Field(i))
		}
		return b
	}
	panic("a message has nothing of that kind: " + v.String())
}

// unlay is the message of bytes, by what its type is made of, and whether there is one.
func unlay(b []byte) (api.Msg, bool) {
	var m api.Msg
	rest, ok := unlayThing(b, reflect.ValueOf(&m).Elem())
	ok = ok && len(b) <= maxBody && len(rest) == 0 && m.Kind >= firstKind && m.Kind <= lastKind
	if !ok {
		return api.Msg{}, false
	}
	return m, true
}

// unlayCount is a count that is not above most, and what stands behind it.
func unlayCount(b []byte, most int) (int, []byte, bool) {
	n, k := binary.Uvarint(b)
	if k <= 0 || k != len(binary.AppendUvarint(nil, n)) || n > uint64(most) {
		return 0, nil, false
	}
	return int(n), b[k:], true
}

func unlayThing(b []byte, v reflect.Value) ([]byte, bool) {
	switch v.Kind() {
	case reflect.Int:
		n, k := binary.Varint(b)
		if k <= 0 || k != len(binary.AppendVarint(nil, n)) || v.OverflowInt(n) {
			return nil, false
		}
		v.SetInt(n)
		return b[k:], true
	case reflect.Uint8:
		n, b, ok := unlayCount(b, 255)
		v.SetUint(uint64(n))
		return b, ok
	case reflect.Bool:
		n, b, ok := unlayCount(b, 1)
		v.SetBool(n == 1)
		return b, ok
	case reflect.String:
		n, b, ok := unlayCount(b, len(b))
		if !ok || n > len(b) {
			return nil, false
		}
		v.SetString(string(b[:n]))
		return b[n:], true
	case reflect.Slice:
		n, b, ok := unlayCount(b, len(b))
		for range n {
			x := reflect.New(v.Type().Elem()).Elem()
			if b, ok = unlayThing(b, x); !ok {
				return nil, false
			}
			v.Set(reflect.Append(v, x))
		}
		return b, ok
	}
	ok := true
	for i := 0; i < v.NumField() && ok; i++ {
		b, ok = unlayThing(b, v.Field(i))
	}
	return b, ok
}

// alike says whether two messages are the same, by what their type is made of.
func alike(a, b api.Msg) bool { return alikeThings(reflect.ValueOf(a), reflect.ValueOf(b)) }

func alikeThings(a, b reflect.Value) bool {
	switch a.Kind() {
	case reflect.Slice:
		same := a.Len() == b.Len()
		for i := 0; same && i < a.Len(); i++ {
			same = alikeThings(a.Index(i), b.Index(i))
		}
		return same
	case reflect.Struct:
		same := true
		for i := 0; same && i < a.NumField(); i++ {
			same = alikeThings(a.Field(i), b.Field(i))
		}
		return same
	}
	return a.Interface() == b.Interface()
}

// cloned is a message in memory of its own.
func cloned(m api.Msg) api.Msg {
	var c api.Msg
	unlayThing(lay(m), reflect.ValueOf(&c).Elem())
	return c
}

// text are n bytes, all c.
func text(c string, n int) string { return strings.Repeat(c, n) }

// fromHex are bytes, told as pairs of digits with or without blanks and line ends.
func fromHex(s string) []byte {
	b, err := hex.DecodeString(strings.Join(strings.Fields(s), ""))
	if err != nil {
		panic(err)
	}
	return b
}

// ints are numbers of all kinds.
func ints() []int {
	return []int{math.MinInt, math.MinInt + 1, -201, -1, 0, 1, 2, 63, 64, 101, 201, maxCount - 1, maxCount, math.MaxInt - 1, math.MaxInt}
}

// shown is anything as a text, cut where it is long.
func shown(x any) string {
	s := fmt.Sprintf("%#v", x)
	if b, ok := x.([]byte); ok {
		s = fmt.Sprintf("%d bytes % X", len(b), b)
	}
	if len(s) > 700 {
		return s[:700] + " .."
	}
	return s
}

// mustEncode asks that a message has these bytes.
func mustEncode(t *testing.T, m api.Msg, want []byte) []byte {
	t.Helper()
	b, err := msg.Encode(m)
	if err != api.OK || string(b) != string(want) {
		t.Fatalf("Encode(%s): %s, %v, want %s", shown(m), shown(b), err, shown(want))
	}
	return b
}

// mustNotEncode asks that a message has no bytes.
func mustNotEncode(t *testing.T, m api.Msg, want api.Errno) {
	t.Helper()
	if b, err := msg.Encode(m); err != want || len(b) != 0 {
		t.Fatalf("Encode(%s): %s, %v, want %v", shown(m), shown(b), err, want)
	}
}

// mustDecode asks that bytes are those of a message.
func mustDecode(t *testing.T, b []byte, want api.Msg) api.Msg {
	t.Helper()
	m, err := msg.Decode(b)
	if err != api.OK || !alike(m, want) {
		t.Fatalf("Decode(%s): %s, %v, want %s", shown(b), shown(m), err, shown(want))
	}
	return m
}

// mustNotDecode asks that bytes are of no message, and that nothing of them is told.
func mustNotDecode(t *testing.T, what string, b []byte) {
	t.Helper()
	if m, err := msg.Decode(b); err != api.ErrForm || !alike(m, api.Msg{}) {
		t.Fatalf("%s: Decode(%s): %s, %v, want %v", what, shown(b), shown(m), err, api.ErrForm)
	}
}

// mustDecodeByType asks that bytes are those of a message just if they are so by what its type
// is made of; whether they are.
func mustDecodeByType(t *testing.T, what string, b []byte) bool {
	t.Helper()
	m, ok := unlay(b)
	if ok {
		mustDecode(t, b, m)
	} else {
		mustNotDecode(t, what, b)
	}
	return ok
}

// mustBeSame asks whether two messages are the same, either way round.
func mustBeSame(t *testing.T, what string, a, b api.Msg, want bool) {
	t.Helper()
	if msg.Same(a, b) != want || msg.Same(b, a) != want {
		t.Fatalf("%s: Same(%s, %s): %v, %v, want %v", what, shown(a), shown(b), msg.Same(a, b), msg.Same(b, a), want)
	}
}

// roomy is a list behind whose end other things stand.
func roomy[T any](l []T, behind ...T) []T { return append(slices.Clone(l), behind...)[:len(l)] }

// whole is all that a list's memory has, also behind its end.
func whole[T any](l []T) []T { return l[:cap(l)] }

// fill adds to a list, and writes over all of it, also behind its end.
func fill[T any](l []T, x T) {
	_ = append(l, x)
	for i := range whole(l) {
		whole(l)[i] = x
	}
}

// scribbles are ways to add to one list of a message each, and to write over all of it.
func scribbles(m api.Msg) []func() {
	var l []func()
	for _, e := range m.Entries {
		l = append(l, func() { fill(e.List, -7) })
	}
	return append(l,
		func() { fill(m.Entries, api.Entry{Term: -7, Data: "scribbled", List: []int{-7}}) },
		func() { fill(m.List, -7) },
		func() { fill(m.Pairs, api.Pair{Key: "scribbled", Value: "scribbled"}) },
		func() { fill(m.Lasts, api.Last{Client: -7, ID: -7}) },
	)
}

// scribble writes over all lists of a message.
func scribble(m api.Msg) {
	for _, write := range scribbles(m) {
		write()
	}
}

// mustBeApart asks that no two lists of a message share memory.
func mustBeApart(t *testing.T, m api.Msg) {
	t.Helper()
	lists := [][]int{m.List}
	for _, e := range m.Entries {
		lists = append(lists, e.List)
	}
	for i, l := range lists {
		fill(l, i)
	}
	for i, l := range lists {
		for _, x := range whole(l) {
			if x != i {
				t.Fatalf("two lists of %s share memory", shown(m))
			}
		}
	}
}

// row are the numbers of a row that hangs on its beginning alone.
type row uint32

// next is a number from 0 on, below n.
func (r *row) next(n int) int {
	*r = *r*1664525 + 1013904223
	return int(*r>>8) % n
}

// one is one of a list.
func one[T any](r *row, l []T) T { return l[r.next(len(l))] }

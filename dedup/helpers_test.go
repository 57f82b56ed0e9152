package dedup_test

import (
	"fmt"
	"slices"
	"strings"
	"testing"

	"buttery/api"
	"buttery/dedup"
)

// The chapter's numbers, written out.
const (
	maxKey   = 32
	maxValue = 2000
)

// get, put, del, swap and fresh are operations; a fresh one is a Swap of a key that has no value.
func get(key string) api.Op        { return api.Op{Kind: 1, Key: key} }
func put(key, value string) api.Op { return api.Op{Kind: 2, Key: key, Value: value} }
func del(key string) api.Op        { return api.Op{Kind: 3, Key: key} }
func swap(key, old, value string) api.Op {
	return api.Op{Kind: 4, Key: key, Old: old, Had: true, Value: value}
}
func fresh(key, value string) api.Op { return api.Op{Kind: 4, Key: key, Value: value} }

// pairs are pairs, told as a key, its value, the next key, and so on.
func pairs(l ...string) []api.Pair {
	var m []api.Pair
	for i := 0; i < len(l); i += 2 {
		m = append(m, api.Pair{Key: l[i], Value: l[i+1]})
	}
	return m
}

// done, found and has are results: of what was done; with Found; with Found and a value.
func done() api.Result            { return api.Result{Kind: 1} }
func found() api.Result           { return api.Result{Kind: 1, Found: true} }
func has(value string) api.Result { return api.Result{Kind: 1, Found: true, Value: value} }

// last is a client's last write.
func last(client, id int, r api.Result) api.Last {
	return api.Last{Client: client, ID: id, Result: r}
}

// shown is anything as a text, cut where it is long.
func shown(x any) string {
	s := strings.ReplaceAll(fmt.Sprintf("%#v", x), "api.", "")
	if len(s) > 500 {
		return s[:500] + " .."
	}
	return s
}

// mustCheck asks what Check says.
func mustCheck(t *testing.T, op api.Op, want api.Errno) {
	t.Helper()
	if err := dedup.Check(op); err != want {
		t.Fatalf("Check(%s): %v, want %v", shown(op), err, want)
	}
}

// mustPlace asks for a key's shard.
func mustPlace(t *testing.T, key string, shards, want int) {
	t.Helper()
	if n := dedup.Place(key, shards); n != want {
		t.Fatalf("Place(%q, %d): %d, want %d", key, shards, n, want)
	}
}

// mustFind asks for a key's value.
func mustFind(t *testing.T, m []api.Pair, key, want string) {
	t.Helper()
	if v, ok := dedup.Find(m, key); v != want || !ok {
		t.Fatalf("Find(%s, %q): %q, %v, want %q", shown(m), key, v, ok, want)
	}
}

// mustNotFind asks that a key has no value.
func mustNotFind(t *testing.T, m []api.Pair, key string) {
	t.Helper()
	if v, ok := dedup.Find(m, key); v != "" || ok {
		t.Fatalf("Find(%s, %q): %q, %v, want none", shown(m), key, v, ok)
	}
}

// mustDo asks what an operation does, and is the list behind it.
func mustDo(t *testing.T, m []api.Pair, op api.Op, want []api.Pair, r api.Result) []api.Pair {
	t.Helper()
	gotM, gotR, err := dedup.Do(m, op)
	if err != api.OK || gotR != r || !slices.Equal(gotM, want) {
		t.Fatalf("Do(%s, %s): %s, %s, %v, want %s, %s", shown(m), shown(op), shown(gotM), shown(gotR), err, shown(want), shown(r))
	}
	return gotM
}

// mustNotDo asks that an operation is refused.
func mustNotDo(t *testing.T, m []api.Pair, op api.Op, want api.Errno) {
	t.Helper()
	if gotM, r, err := dedup.Do(m, op); err != want || len(gotM) != 0 || r != (api.Result{}) {
		t.Fatalf("Do(%s, %s): %s, %s, %v, want %v", shown(m), shown(op), shown(gotM), shown(r), err, want)
	}
}

// mustSeen asks for the result of a client's last write.
func mustSeen(t *testing.T, l []api.Last, client, id int, want api.Result) {
	t.Helper()
	if r, err := dedup.Seen(l, client, id); err != api.OK || r != want {
		t.Fatalf("Seen(%s, %d, %d): %s, %v, want %s", shown(l), client, id, shown(r), err, shown(want))
	}
}

// mustNotSeen asks that no result is told.
func mustNotSeen(t *testing.T, l []api.Last, client, id int, want api.Errno) {
	t.Helper()
	if r, err := dedup.Seen(l, client, id); err != want || r != (api.Result{}) {
		t.Fatalf("Seen(%s, %d, %d): %s, %v, want %v", shown(l), client, id, shown(r), err, want)
	}
}

// mustNote asks what a list is when a write is noted.
func mustNote(t *testing.T, l []api.Last, x api.Last, want ...api.Last) {
	t.Helper()
	if got := dedup.Note(l, x); !slices.Equal(got, want) {
		t.Fatalf("Note(%s, %s): %s, want %s", shown(l), shown(x), shown(got), shown(want))
	}
}

// lists are a map and last writes.
type lists struct {
	m []api.Pair
	l []api.Last
}

// same says whether two are the same.
func (s lists) same(o lists) bool { return slices.Equal(s.m, o.m) && slices.Equal(s.l, o.l) }

// cloned are lists of their own.
func (s lists) cloned() lists { return lists{slices.Clone(s.m), slices.Clone(s.l)} }

// mustStep asks what a request does, and is the lists behind it.
func mustStep(t *testing.T, s lists, client, id int, op api.Op, want lists, r api.Result) lists {
	t.Helper()
	m, l, gotR, err := dedup.Step(s.m, s.l, client, id, op)
	got := lists{m, l}
	if err != api.OK || gotR != r || !got.same(want) {
		t.Fatalf("Step(%s, %d, %d, %s): %s, %s, %v, want %s, %s", shown(s), client, id, shown(op), shown(got), shown(gotR), err, shown(want), shown(r))
	}
	return got
}

// mustNotStep asks that a request is refused.
func mustNotStep(t *testing.T, s lists, client, id int, op api.Op, want api.Errno) {
	t.Helper()
	m, l, r, err := dedup.Step(s.m, s.l, client, id, op)
	if err != want || len(m) != 0 || len(l) != 0 || r != (api.Result{}) {
		t.Fatalf("Step(%s, %d, %d, %s): %s, %s, %s, %v, want %v", shown(s), client, id, shown(op), shown(m), shown(l), shown(r), err, want)
	}
}

// text are n bytes, all c.
func text(c string, n int) string { return strings.Repeat(c, n) }

// row are the numbers of a row that hangs on its beginning alone.
type row uint32

// next is a number from 0 on, below n.
func (r *row) next(n int) int {
	*r = *r*1664525 + 1013904223
	return int(*r>>8) % n
}

// one is one of a list.
func one[T any](r *row, l []T) T { return l[r.next(len(l))] }

// text is a text of at most so many bytes, of few kinds.
func (r *row) text(most int) string {
	b := make([]byte, r.next(most+1))
	for i := range b {
		b[i] = "\x00\x01ab\x7f\x80\xff"[r.next(7)]
	}
	return string(b)
}

// key is a key that may be: mostly one of few, so that it comes again.
func (r *row) key() string {
	if r.next(4) > 0 {
		return one(r, []string{"a", "b", "ab", "c", "\x00", "\xff"})
	}
	return "k" + r.text(maxKey-1)
}

// value is a value that may be.
func (r *row) value() string {
	if r.next(4) > 0 {
		return one(r, []string{"", "1", "2"})
	}
	return r.text(40)
}

// op is an operation that may be.
func (r *row) op() api.Op {
	return api.Op{Kind: uint8(1 + r.next(4)), Key: r.key(), Value: r.value(), Old: r.value(), Had: r.next(2) == 1}
}

// write is a write that may be.
func (r *row) write() api.Op {
	op := r.op()
	op.Kind = uint8(2 + r.next(3))
	return op
}

// wrong is an operation that may not be.
func (r *row) wrong() api.Op {
	op := r.op()
	switch r.next(5) {
	case 0:
		op.Kind = one(r, []uint8{0, 5, 6, 255})
	case 1:
		op.Key = ""
	case 2:
		op.Key = text("k", maxKey+1+r.next(9))
	case 3:
		op.Value = text("v", maxValue+1+r.next(9))
	default:
		op.Old = text("o", maxValue+1+r.next(9))
	}
	return op
}

// pairs is a list of at most so many pairs; its keys need not rise, and may come more than once.
func (r *row) pairs(most int) []api.Pair {
	var m []api.Pair
	for range r.next(most + 1) {
		m = append(m, api.Pair{Key: r.key(), Value: r.value()})
	}
	return m
}

// lasts is a list of at most so many last writes; its clients need not rise, and may come more
// than once.
func (r *row) lasts(most int) []api.Last {
	var l []api.Last
	for range r.next(most + 1) {
		l = append(l, last(200+r.next(6), r.next(5), api.Result{Kind: uint8(r.next(4)), Found: r.next(2) == 1, Value: r.value()}))
	}
	return l
}

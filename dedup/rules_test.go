package dedup_test

import (
	"math"
	"slices"
	"testing"

	"buttery/api"
	"buttery/dedup"
)

// anyOp is an operation of anything.
func (r *row) anyOp() api.Op {
	sizes := []int{0, 1, 3, maxKey, maxKey + 1, maxValue, maxValue + 1, 5000}
	return api.Op{Kind: uint8(r.next(256)), Key: r.text(one(r, sizes)), Value: r.text(one(r, sizes)), Old: r.text(one(r, sizes)), Had: r.next(2) == 1}
}

// ints are numbers of all kinds.
func ints() []int {
	return []int{math.MinInt, math.MinInt + 1, -1, 0, 1, 2, 201, math.MaxInt - 1, math.MaxInt}
}

// R1: no call panics, whatever it is handed, and all end; each answers by the chapter.
func TestWhateverIsHandedIn(t *testing.T) {
	r := row(1)
	for range 3000 {
		op := r.anyOp()
		if r.next(2) == 0 {
			op.Kind = uint8(1 + r.next(4))
		}
		s := lists{r.pairs(4), nil}
		for range r.next(4) {
			s.m = append(s.m, api.Pair{Key: r.text(3000), Value: r.text(3000)})
			s.l = append(s.l, last(one(&r, ints()), one(&r, ints()), api.Result{Kind: uint8(r.next(256)), Found: true, Value: r.text(3000)}))
		}
		client, id := one(&r, ints()), one(&r, ints())
		mustCheck(t, op, mindCheck(op))
		mustPlace(t, op.Key, id, mindPlace(op.Key, id))
		if want, res, err := mindStep(s, client, id, op); err == api.OK {
			mustStep(t, s, client, id, op, want, res)
		} else {
			mustNotStep(t, s, client, id, op, err)
		}
		x := last(client, id, api.Result{Value: op.Old})
		mustNote(t, s.l, x, mindNote(s.l, x)...)
	}
	mustNotDo(t, nil, api.Op{}, api.ErrArg)
	mustNotStep(t, lists{}, 0, 0, api.Op{}, api.ErrArg)
	mustNote(t, nil, api.Last{}, api.Last{})
	mustCheck(t, put(text("k", 1<<26), text("v", 1<<26)), api.ErrTooLarge)
	mustPlace(t, text("\x01", 1<<26), 1000, 1<<26%1000)
}

// R1: all calls end, however long a list is.
func TestLongLists(t *testing.T) {
	const many = 1 << 17
	m := slices.Repeat(pairs("a", "1", "c", "2"), many)
	mustFind(t, m, "c", "2")
	mustNotFind(t, m, "b")
	mustDo(t, m, put("b", "x"), slices.Concat(m[:1], pairs("b", "x"), m[1:]), done())
	mustDo(t, m, del("a"), slices.Repeat(pairs("c", "2"), many), found())
	l := slices.Repeat([]api.Last{last(1, 1, done()), last(3, 1, done())}, many)
	mustNotSeen(t, l, 2, 1, api.ErrNone)
	mustNote(t, l, last(4, 1, done()), append(slices.Clone(l), last(4, 1, done()))...)
	mustStep(t, lists{m, l}, 3, 1, del("a"), lists{m, l}, done())
}

// R2: the same is answered again, whatever else was asked in between.
func TestAgain(t *testing.T) {
	ask := func() []any {
		r := row(2)
		var told []any
		for range 300 {
			m, l, op := r.pairs(5), r.lasts(5), r.op()
			client, id := 200+r.next(6), r.next(5)
			a, res, err := dedup.Do(m, op)
			told = append(told, shown(a), res, err)
			seen, err := dedup.Seen(l, client, id)
			told = append(told, seen, err, shown(dedup.Note(l, last(client, id, res))), dedup.Place(op.Key, 4))
			a, b, res, err := dedup.Step(m, l, client, id, op)
			told = append(told, shown(a), shown(b), res, err)
		}
		return told
	}
	want := ask()
	for range 3 {
		if !slices.Equal(ask(), want) {
			t.Fatal("another answer")
		}
	}
}

// room is a copy of a list with room behind its end, in which something stands.
func room[T any](l []T, x ...T) []T { return append(slices.Clone(l), x...)[: len(l) : len(l)+len(x)] }

// whole is all that a list's memory has, also behind its end.
func whole[T any](l []T) []T { return l[:cap(l)] }

// roomy are lists with room behind their ends, in which pairs and last writes stand that would
// be told, were they looked at.
func (s lists) roomy() lists {
	return lists{room(s.m, pairs("a", "behind", "b", "behind")...), room(s.l, last(201, 3, has("behind")), last(202, 3, has("behind")))}
}

// scribble writes over all of the lists, also behind their ends.
func (s lists) scribble() {
	for i := range whole(s.m) {
		whole(s.m)[i] = api.Pair{Key: "scribbled", Value: "scribbled"}
	}
	for i := range whole(s.l) {
		whole(s.l)[i] = last(-7, -7, has("scribbled"))
	}
}

// R3: what is handed in stays as it is, and what stands behind its end is not looked at, nor
// changed; R4: so it is where an error is told.
func TestListsStayAsTheyAre(t *testing.T) {
	r := row(3)
	for range 5000 {
		was := lists{r.pairs(5), r.lasts(5)}
		in, client, id, op := was.roomy(), 200+r.next(6), r.next(6), r.op()
		if r.next(5) == 0 {
			op = r.wrong()
		}
		if want, res, err := mindStep(was, client, id, op); err == api.OK {
			mustStep(t, in, client, id, op, want, res)
		} else {
			mustNotStep(t, in, client, id, op, err)
		}
		if mindCheck(op) == api.OK {
			want, res := mindDo(was.m, op)
			mustDo(t, in.m, op, want, res)
		} else {
			mustNotDo(t, in.m, op, mindCheck(op))
		}
		x := last(client, id, done())
		mustNote(t, in.l, x, mindNote(was.l, x)...)
		dedup.Find(in.m, op.Key)
		dedup.Seen(in.l, client, id)
		now := lists{whole(in.m), whole(in.l)}
		want := was.roomy()
		if !now.same(lists{whole(want.m), whole(want.l)}) {
			t.Fatalf("%s is %s now, behind %s of %d %d", shown(was), shown(now), shown(op), client, id)
		}
	}
}

// answers are the lists that the calls tell, each by itself.
func answers(in lists, client, id int, op api.Op) []lists {
	do, _, _ := dedup.Do(in.m, op)
	m, l, _, _ := dedup.Step(in.m, in.l, client, id, op)
	return []lists{{m: do}, {m: m}, {l: l}, {l: dedup.Note(in.l, last(client, id, done()))}}
}

// mustStay asks that what was told is as it was.
func mustStay(t *testing.T, what string, told, want []lists) {
	t.Helper()
	for i := range want {
		if !told[i].same(want[i]) {
			t.Fatalf("%s: %s is %s now", what, shown(want[i]), shown(told[i]))
		}
	}
}

// R3: what was told shares no memory with what was handed in, nor with what else is told, or is
// told later.
func TestAnswersAreNewMemory(t *testing.T) {
	r := row(4)
	for range 3000 {
		was := lists{r.pairs(5), r.lasts(5)}
		in, client, id, op := was.roomy(), 200+r.next(6), r.next(6), r.op()
		told := answers(in, client, id, op)
		var want []lists
		for _, s := range told {
			want = append(want, s.cloned())
		}
		for i, s := range told {
			s.scribble()
			mustStay(t, "another answer was written over", told[i+1:], want[i+1:])
		}
		now, roomy := lists{whole(in.m), whole(in.l)}, was.roomy()
		mustStay(t, "the answers were written over", []lists{now}, []lists{{whole(roomy.m), whole(roomy.l)}})
		told = answers(in, client, id, op)
		mustStay(t, "the first answers were written over", told, want)
		lists{whole(in.m), whole(in.l)}.scribble()
		mustStay(t, "what was handed in was written over", told, want)
	}
}

// R4: beside an error there is nothing else.
func TestNothingBesideAnError(t *testing.T) {
	m, l := pairs("a", "1"), []api.Last{last(201, 5, has("x"))}
	for _, op := range []api.Op{{}, {Kind: 5, Key: "a"}, put("", ""), get(text("k", 33)), del(text("k", 33)), swap("a", text("o", 2001), "")} {
		if got, r, err := dedup.Do(m, op); err == api.OK || got != nil || r != (api.Result{}) {
			t.Errorf("Do(%s): %v, %v, %v", shown(op), got, r, err)
		}
		for id := 4; id <= 6; id++ {
			if a, b, r, err := dedup.Step(m, l, 201, id, op); err == api.OK || a != nil || b != nil || r != (api.Result{}) {
				t.Errorf("Step(%d, %s): %v, %v, %v, %v", id, shown(op), a, b, r, err)
			}
		}
	}
	for _, id := range []int{math.MinInt, 4, 6, math.MaxInt} {
		if r, err := dedup.Seen(l, 201, id); err == api.OK || r != (api.Result{}) {
			t.Errorf("Seen(%d): %v, %v", id, r, err)
		}
	}
	if a, b, r, err := dedup.Step(m, l, 201, 4, del("a")); err != api.ErrTwice || a != nil || b != nil || r != (api.Result{}) {
		t.Error(a, b, r, err)
	}
}

// R6: an empty list is as good as none.
func TestEmptyLists(t *testing.T) {
	for _, s := range []lists{{}, {[]api.Pair{}, []api.Last{}}, {pairs("a", "1")[:0], []api.Last{last(201, 5, done())}[:0]}} {
		mustNotFind(t, s.m, "a")
		mustNotSeen(t, s.l, 201, 5, api.ErrNone)
		mustDo(t, s.m, put("b", "1"), pairs("b", "1"), done())
		mustDo(t, s.m, get("a"), nil, done())
		mustDo(t, s.m, del("a"), nil, done())
		mustDo(t, s.m, swap("a", "1", "2"), nil, done())
		mustStep(t, s, 201, 5, fresh("a", "1"), lists{pairs("a", "1"), []api.Last{last(201, 5, found())}}, found())
		mustStep(t, s, 201, 5, del("a"), lists{nil, []api.Last{last(201, 5, done())}}, done())
		mustNote(t, s.l, last(1, 2, done()), last(1, 2, done()))
	}
}

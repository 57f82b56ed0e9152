package dedup_test

import (
	"math"
	"testing"

	"buttery/api"
)

// P9.3: a client's last write: of none, of lesser, the same and greater IDs.
func TestSeen(t *testing.T) {
	mustNotSeen(t, nil, 201, 5, api.ErrNone)
	mustNotSeen(t, []api.Last{}, 0, 0, api.ErrNone)
	l := []api.Last{last(201, 5, found()), last(202, 7, has("x")), last(204, -3, done())}
	for _, x := range []struct {
		client, id int
		want       api.Errno
	}{
		{200, 5, api.ErrNone}, {203, 5, api.ErrNone}, {205, 5, api.ErrNone}, {0, 0, api.ErrNone}, {-201, 5, api.ErrNone},
		{201, 6, api.ErrNone}, {201, math.MaxInt, api.ErrNone}, {201, 4, api.ErrTwice}, {201, 0, api.ErrTwice},
		{201, -5, api.ErrTwice}, {201, math.MinInt, api.ErrTwice}, {201, 7, api.ErrNone}, {202, 5, api.ErrTwice},
		{204, -2, api.ErrNone}, {204, 0, api.ErrNone}, {204, 3, api.ErrNone}, {204, -4, api.ErrTwice},
	} {
		mustNotSeen(t, l, x.client, x.id, x.want)
	}
	mustSeen(t, l, 201, 5, found())
	mustSeen(t, l, 202, 7, has("x"))
	mustSeen(t, l, 204, -3, done())
	mustNotSeen(t, l[:1], 202, 7, api.ErrNone) // what stands behind the end is not there
	ends := []api.Last{last(math.MinInt, math.MaxInt, done()), last(math.MaxInt, math.MinInt, found())}
	mustSeen(t, ends, math.MinInt, math.MaxInt, done())
	mustSeen(t, ends, math.MaxInt, math.MinInt, found())
	mustNotSeen(t, ends, math.MinInt, math.MaxInt-1, api.ErrTwice)
	mustNotSeen(t, ends, math.MinInt, math.MinInt, api.ErrTwice)
	mustNotSeen(t, ends, math.MaxInt, math.MinInt+1, api.ErrNone)
	mustNotSeen(t, ends, math.MaxInt, math.MaxInt, api.ErrNone)
}

// P9.3: a result is told as it was noted, whatever it is.
func TestSeenTellsAnyResult(t *testing.T) {
	for _, r := range []api.Result{{}, {Kind: 2}, {Kind: 3, Value: "x"}, {Kind: 255, Found: true, Value: text("v", 3000)}} {
		mustSeen(t, []api.Last{last(7, 1, r)}, 7, 1, r)
		mustNote(t, nil, last(7, 1, r), last(7, 1, r))
		s := lists{pairs("a", "1"), []api.Last{last(7, 1, r)}}
		mustStep(t, s, 7, 1, del("a"), s, r)
	}
}

// P9.3: where a client is there more than once, the first one counts.
func TestSeenOfAClientThatComesAgain(t *testing.T) {
	l := []api.Last{last(202, 1, done()), last(201, 5, has("x")), last(201, 9, found()), last(201, 2, done()), last(201, 5, done())}
	mustSeen(t, l, 201, 5, has("x"))
	mustNotSeen(t, l, 201, 9, api.ErrNone)
	mustNotSeen(t, l, 201, 2, api.ErrTwice)
	mustNotSeen(t, l, 201, 6, api.ErrNone)
	mustSeen(t, l, 202, 1, done())
}

// P9.3: where a write is noted: in the place of the first one of its client, ahead of the first
// greater one, last.
func TestNote(t *testing.T) {
	a, b, c, d := last(1, 5, done()), last(2, 5, found()), last(3, 5, has("x")), last(4, 5, done())
	x := last(2, 6, has("new"))
	mustNote(t, nil, x, x)
	mustNote(t, []api.Last{}, x, x)
	mustNote(t, []api.Last{a}, x, a, x)
	mustNote(t, []api.Last{b}, x, x)
	mustNote(t, []api.Last{c}, x, x, c)
	mustNote(t, []api.Last{a, c}, x, a, x, c)
	mustNote(t, []api.Last{a, b, c}, x, a, x, c)
	mustNote(t, []api.Last{c, d}, x, x, c, d)
	mustNote(t, []api.Last{a, b, b, c}, x, a, x, b, c)
	mustNote(t, []api.Last{c, b, a, b}, x, c, x, a, b)
	mustNote(t, []api.Last{d, c, a}, x, x, d, c, a)
	mustNote(t, []api.Last{a, c, a, d}, x, a, x, c, a, d)
	mustNote(t, []api.Last{a, a}, x, a, a, x)
	mustNote(t, []api.Last{a, b, c}[:1], x, a, x)
	// An ID that is not greater is noted as well: whether it may be was asked before.
	mustNote(t, []api.Last{a, x, c}, b, a, b, c)
	mustNote(t, []api.Last{a, b, c}, b, a, b, c)
	mustNote(t, []api.Last{b}, last(2, math.MinInt, done()), last(2, math.MinInt, done()))
	// Numbers as far apart as can be.
	least, most := last(math.MinInt, 1, done()), last(math.MaxInt, 1, done())
	mustNote(t, []api.Last{a}, least, least, a)
	mustNote(t, []api.Last{a}, most, a, most)
	mustNote(t, []api.Last{most}, least, least, most)
	mustNote(t, []api.Last{least}, most, least, most)
	mustNote(t, []api.Last{last(-1, 1, done())}, last(-2, 1, done()), last(-2, 1, done()), last(-1, 1, done()))
}

// P9.3: all short lists, whatever clients they have, in whatever order.
func TestSeenAndNoteOfAllShortLists(t *testing.T) {
	few := []api.Last{last(1, 1, done()), last(1, 2, found()), last(2, 1, has("x")), last(2, 2, done()), last(3, 2, found())}
	everyList(4, few, func(l []api.Last) {
		for client := range 5 {
			for id := range 4 {
				if r, err := mindSeen(l, client, id); err == api.OK {
					mustSeen(t, l, client, id, r)
				} else {
					mustNotSeen(t, l, client, id, err)
				}
				x := last(client, id, has("new"))
				mustNote(t, l, x, mindNote(l, x)...)
			}
		}
	})
}

// P9.3: a write that comes once, again, late.
func TestStep(t *testing.T) {
	s := mustStep(t, lists{}, 201, 5, put("a", "1"), lists{pairs("a", "1"), []api.Last{last(201, 5, done())}}, done())
	mustStep(t, s, 201, 5, put("a", "1"), s, done())
	mustNotStep(t, s, 201, 4, put("a", "1"), api.ErrTwice)

	s = mustStep(t, s, 201, 6, swap("a", "1", "2"), lists{pairs("a", "2"), []api.Last{last(201, 6, found())}}, found())
	mustStep(t, s, 201, 6, swap("a", "1", "2"), s, found()) // it would not fit any more
	mustNotStep(t, s, 201, 5, put("a", "1"), api.ErrTwice)

	s = mustStep(t, s, 200, 1, swap("a", "1", "3"), lists{pairs("a", "2"), []api.Last{last(200, 1, done()), last(201, 6, found())}}, done())
	s = mustStep(t, s, 300, -7, fresh("b", "1"), lists{pairs("a", "2", "b", "1"), []api.Last{last(200, 1, done()), last(201, 6, found()), last(300, -7, found())}}, found())
	mustStep(t, s, 200, 1, swap("a", "1", "3"), s, done())
	mustStep(t, s, 201, 6, swap("a", "1", "2"), s, found())
	mustNotStep(t, s, 300, -8, del("b"), api.ErrTwice)

	s = mustStep(t, s, 200, 9, del("a"), lists{pairs("b", "1"), []api.Last{last(200, 9, found()), last(201, 6, found()), last(300, -7, found())}}, found())
	mustStep(t, s, 200, 9, del("a"), s, found()) // there would be none any more
	s = mustStep(t, s, 201, 7, del("a"), lists{pairs("b", "1"), []api.Last{last(200, 9, found()), last(201, 7, done()), last(300, -7, found())}}, done())
	mustStep(t, s, 201, 7, del("a"), s, done())
}

// P9.3: what comes again by its number is told what was noted, though it is another write.
func TestStepOfAnotherWriteAgain(t *testing.T) {
	s := lists{pairs("a", "1"), []api.Last{last(201, 5, has("noted"))}}
	for _, op := range []api.Op{put("a", "2"), del("a"), fresh("b", "1"), swap("a", "1", "2")} {
		mustStep(t, s, 201, 5, op, s, has("noted"))
		mustNotStep(t, s, 201, 4, op, api.ErrTwice)
	}
}

// P9.3: what may not be is refused, ahead of all else; then a Get; then what comes too late.
func TestStepOfWhatIsRefused(t *testing.T) {
	s := lists{pairs("a", "1"), []api.Last{last(201, 5, found())}}
	for id := 4; id <= 6; id++ {
		for _, kind := range []uint8{0, 1, 2, 3, 4, 5, 255} {
			for _, op := range lengthsOf(kind) {
				want, r, err := mindStep(s, 201, id, op)
				if err != api.OK {
					mustNotStep(t, s, 201, id, op, err)
				} else {
					mustStep(t, s, 201, id, op, want, r)
				}
			}
		}
		mustNotStep(t, s, 201, id, get("a"), api.ErrArg)
		mustNotStep(t, s, 201, id, get("b"), api.ErrArg)
		mustNotStep(t, s, 202, id, get("a"), api.ErrArg)
		mustNotStep(t, s, 201, id, get(""), api.ErrTooLarge)
		mustNotStep(t, s, 201, id, get(text("k", 33)), api.ErrTooLarge)
		mustNotStep(t, s, 201, id, put("a", text("v", 2001)), api.ErrTooLarge)
		mustNotStep(t, s, 201, id, api.Op{Key: "a"}, api.ErrArg)
		mustNotStep(t, s, 201, id, api.Op{Kind: 5, Key: text("k", 33)}, api.ErrArg)
		mustNotStep(t, lists{}, 201, id, api.Op{}, api.ErrArg)
		mustNotStep(t, lists{}, 201, id, get("a"), api.ErrArg)
	}
}

// P9.3: drawn requests on drawn lists.
func TestStepAsInMind(t *testing.T) {
	r := row(93)
	told := map[api.Errno]int{}
	for range 30000 {
		s := lists{r.pairs(8), r.lasts(6)}
		client, id, op := 200+r.next(7), r.next(6), r.op()
		if r.next(10) == 0 {
			op = r.wrong()
		}
		want, res, err := mindStep(s, client, id, op)
		told[err]++
		if err != api.OK {
			mustNotStep(t, s, client, id, op, err)
		} else {
			mustStep(t, s, client, id, op, want, res)
		}
	}
	for _, err := range []api.Errno{api.OK, api.ErrArg, api.ErrTooLarge, api.ErrTwice} {
		if told[err] < 500 {
			t.Errorf("%v: only %d", err, told[err])
		}
	}
}

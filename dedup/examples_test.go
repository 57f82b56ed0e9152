package dedup_test

import (
	"slices"
	"testing"

	"buttery/api"
	"buttery/dedup"
)

// The chapter's first example: what operations do.
func TestExampleOfOperations(t *testing.T) {
	a := mustDo(t, nil, put("a", "1"), pairs("a", "1"), done())
	mustDo(t, a, swap("a", "1", "2"), pairs("a", "2"), found())
	mustDo(t, a, fresh("a", "2"), pairs("a", "1"), done())
	mustDo(t, a, del("a"), nil, found())
	mustDo(t, a, get("b"), a, done())
}

// The chapter's second example: a write that comes again, late, and once.
func TestExampleOfWrites(t *testing.T) {
	s := lists{pairs("a", "1"), []api.Last{last(201, 5, done())}}
	mustStep(t, s, 201, 5, del("a"), s, done())
	mustNotStep(t, s, 201, 4, del("a"), api.ErrTwice)
	mustStep(t, s, 201, 6, del("a"), lists{nil, []api.Last{last(201, 6, found())}}, found())
}

// The chapter's third example: what may be, and a key's shard.
func TestExampleOfChecks(t *testing.T) {
	mustCheck(t, put("", "x"), api.ErrTooLarge)
	mustCheck(t, put(text("k", 32), "x"), api.OK)
	mustCheck(t, put(text("k", 33), "x"), api.ErrTooLarge)
	mustCheck(t, api.Op{Kind: 0, Key: "k"}, api.ErrArg)
	mustCheck(t, api.Op{Kind: 5, Key: "k"}, api.ErrArg)
	mustPlace(t, "ab", 4, 3)
}

// The limits and kinds are those of the chapter.
func TestLimits(t *testing.T) {
	if api.MaxKey != maxKey || api.MaxValue != maxValue || api.Done != 1 {
		t.Error(api.MaxKey, api.MaxValue, api.Done)
	}
	if kinds := []uint8{api.Get, api.Put, api.Delete, api.Swap}; !slices.Equal(kinds, []uint8{1, 2, 3, 4}) {
		t.Error(kinds)
	}
}

// The example of README.md.
func TestExampleOfReadme(t *testing.T) {
	var m []api.Pair
	var l []api.Last
	write := api.Op{Kind: api.Swap, Key: "a", Value: "1"}
	m, l, r, err := dedup.Step(m, l, 201, 1, write)
	if err != api.OK || r != found() {
		t.Error(r, err)
	}
	m, l, r, err = dedup.Step(m, l, 201, 1, write)
	if err != api.OK || r != found() || !slices.Equal(m, pairs("a", "1")) {
		t.Error(m, r, err)
	}
	_, r, err = dedup.Do(m, api.Op{Kind: api.Get, Key: "a"})
	if err != api.OK || r != has("1") {
		t.Error(r, err)
	}
	if v, ok := dedup.Find(m, "a"); v != "1" || !ok {
		t.Error(v, ok)
	}
	if _, _, _, err = dedup.Step(m, l, 201, 0, write); err != api.ErrTwice {
		t.Error(err)
	}
	if n := dedup.Place("ab", 4); n != 3 {
		t.Error(n)
	}
}

package dedup_test

import (
	"testing"

	"buttery/api"
)

// P9.2: what each kind does, to no pair and to one.
func TestDoOfEachKind(t *testing.T) {
	none, a := pairs(), pairs("a", "1")
	mustDo(t, none, get("a"), none, done())
	mustDo(t, a, get("a"), a, has("1"))
	mustDo(t, pairs("a", ""), get("a"), pairs("a", ""), found())
	mustDo(t, a, get("b"), a, done())

	mustDo(t, none, put("a", "1"), a, done())
	mustDo(t, none, put("a", ""), pairs("a", ""), done())
	mustDo(t, a, put("a", "2"), pairs("a", "2"), done())
	mustDo(t, a, put("a", "1"), a, done())
	mustDo(t, a, put("a", ""), pairs("a", ""), done())
	mustDo(t, a, put("b", "2"), pairs("a", "1", "b", "2"), done())
	mustDo(t, a, put("A", "2"), pairs("A", "2", "a", "1"), done())

	mustDo(t, none, del("a"), none, done())
	mustDo(t, a, del("a"), none, found())
	mustDo(t, pairs("a", ""), del("a"), none, found())
	mustDo(t, a, del("b"), a, done())

	mustDo(t, none, fresh("a", "1"), a, found())
	mustDo(t, a, fresh("a", "2"), a, done())
	mustDo(t, pairs("a", ""), fresh("a", "2"), pairs("a", ""), done())
	mustDo(t, a, fresh("b", "2"), pairs("a", "1", "b", "2"), found())

	mustDo(t, none, swap("a", "1", "2"), none, done())
	mustDo(t, none, swap("a", "", "2"), none, done())
	mustDo(t, a, swap("a", "1", "2"), pairs("a", "2"), found())
	mustDo(t, a, swap("a", "1", "1"), a, found())
	mustDo(t, a, swap("a", "2", "2"), a, done())
	mustDo(t, a, swap("a", "", "2"), a, done())
	mustDo(t, pairs("a", ""), swap("a", "", "2"), pairs("a", "2"), found())
	mustDo(t, a, swap("b", "1", "2"), a, done())
}

// P9.2: what an operation's kind does not ask for is not looked at.
func TestWhatAKindDoesNotAskFor(t *testing.T) {
	a, b := pairs("a", "1"), pairs("a", "2")
	for _, old := range []string{"", "1", "2", text("o", 2000)} {
		for _, had := range []bool{false, true} {
			mustDo(t, a, api.Op{Kind: 1, Key: "a", Value: "2", Old: old, Had: had}, a, has("1"))
			mustDo(t, a, api.Op{Kind: 2, Key: "a", Value: "2", Old: old, Had: had}, b, done())
			mustDo(t, nil, api.Op{Kind: 2, Key: "a", Value: "2", Old: old, Had: had}, b, done())
			mustDo(t, a, api.Op{Kind: 3, Key: "a", Value: "2", Old: old, Had: had}, nil, found())
			mustDo(t, nil, api.Op{Kind: 3, Key: "a", Value: "2", Old: old, Had: had}, nil, done())
		}
		mustDo(t, nil, api.Op{Kind: 4, Key: "a", Value: "2", Old: old}, b, found())
		mustDo(t, a, api.Op{Kind: 4, Key: "a", Value: "2", Old: old}, a, done())
	}
}

// P9.2: a value is put in the place of the first pair of the key, ahead of the first greater
// one, or last; also where the keys don't rise, or come more than once.
func TestWhereAValueIsPut(t *testing.T) {
	for _, x := range []struct {
		m    []api.Pair
		key  string
		want []api.Pair
	}{
		{pairs("b", "1", "d", "2"), "a", pairs("a", "x", "b", "1", "d", "2")},
		{pairs("b", "1", "d", "2"), "b", pairs("b", "x", "d", "2")},
		{pairs("b", "1", "d", "2"), "c", pairs("b", "1", "c", "x", "d", "2")},
		{pairs("b", "1", "d", "2"), "d", pairs("b", "1", "d", "x")},
		{pairs("b", "1", "d", "2"), "e", pairs("b", "1", "d", "2", "e", "x")},
		{pairs("b", "1", "d", "2"), "b\x00", pairs("b", "1", "b\x00", "x", "d", "2")},
		{pairs("b", "1", "d", "2"), "\xff", pairs("b", "1", "d", "2", "\xff", "x")},
		{pairs("b", "1", "d", "2"), "\x00", pairs("\x00", "x", "b", "1", "d", "2")},
		{pairs("\x7f", "1", "\xff", "2"), "\x80", pairs("\x7f", "1", "\x80", "x", "\xff", "2")},
		{pairs("", "1", "b", "2"), "a", pairs("", "1", "a", "x", "b", "2")},

		{pairs("d", "1", "b", "2"), "c", pairs("c", "x", "d", "1", "b", "2")},
		{pairs("d", "1", "b", "2"), "a", pairs("a", "x", "d", "1", "b", "2")},
		{pairs("d", "1", "b", "2"), "b", pairs("d", "1", "b", "x")},
		{pairs("a", "1", "d", "2", "b", "3", "e", "4"), "c", pairs("a", "1", "c", "x", "d", "2", "b", "3", "e", "4")},
		{pairs("a", "1", "d", "2", "b", "3", "e", "4"), "b", pairs("a", "1", "d", "2", "b", "x", "e", "4")},
		{pairs("a", "1", "d", "2", "b", "3"), "e", pairs("a", "1", "d", "2", "b", "3", "e", "x")},

		{pairs("b", "1", "b", "2"), "b", pairs("b", "x", "b", "2")},
		{pairs("b", "1", "b", "2"), "a", pairs("a", "x", "b", "1", "b", "2")},
		{pairs("b", "1", "b", "2"), "c", pairs("b", "1", "b", "2", "c", "x")},
		{pairs("c", "1", "b", "2", "c", "3", "b", "4"), "b", pairs("c", "1", "b", "x", "c", "3", "b", "4")},
		{pairs("c", "1", "b", "2", "c", "3", "b", "4"), "c", pairs("c", "x", "b", "2", "c", "3", "b", "4")},
	} {
		mustDo(t, x.m, put(x.key, "x"), x.want, done())
		if want, r := mindDo(x.m, fresh(x.key, "x")); r == found() {
			mustDo(t, x.m, fresh(x.key, "x"), x.want, found())
		} else {
			mustDo(t, x.m, fresh(x.key, "x"), want, r)
		}
	}
}

// P9.2: a Delete takes all pairs of the key, and no other one.
func TestDeleteTakesAll(t *testing.T) {
	m := pairs("b", "1", "a", "2", "b", "3", "c", "4", "b", "5", "b", "6")
	mustDo(t, m, del("b"), pairs("a", "2", "c", "4"), found())
	mustDo(t, m, del("a"), pairs("b", "1", "b", "3", "c", "4", "b", "5", "b", "6"), found())
	mustDo(t, m, del("d"), m, done())
	mustDo(t, pairs("b", "1", "b", "1", "b", "2"), del("b"), nil, found())
	mustDo(t, pairs("ab", "1", "b\x00", "2", "", "3", "B", "4"), del("b"), pairs("ab", "1", "b\x00", "2", "", "3", "B", "4"), done())
}

// P9.2: a Swap looks at the first pair of its key, and changes that one alone.
func TestSwapOfAKeyThatComesAgain(t *testing.T) {
	m := pairs("b", "1", "a", "2", "b", "3")
	mustDo(t, m, swap("b", "1", "x"), pairs("b", "x", "a", "2", "b", "3"), found())
	mustDo(t, m, swap("b", "3", "x"), m, done())
	mustDo(t, m, fresh("b", "x"), m, done())
	mustDo(t, m, get("b"), m, has("1"))
}

// everyList tells all lists of at most so many, each of them one of a few.
func everyList[T any](most int, few []T, tell func([]T)) {
	var on func(l []T)
	on = func(l []T) {
		tell(l)
		if len(l) == most {
			return
		}
		for _, x := range few {
			on(append(l[:len(l):len(l)], x))
		}
	}
	on(nil)
}

// P9.2: all operations on all short lists, whatever keys they have, in whatever order.
func TestDoOnAllShortLists(t *testing.T) {
	var ops []api.Op
	for _, key := range []string{"a", "b", "c"} {
		for _, value := range []string{"", "1", "2"} {
			for _, old := range []string{"", "1"} {
				for kind := range uint8(4) {
					ops = append(ops, api.Op{Kind: kind + 1, Key: key, Value: value, Old: old},
						api.Op{Kind: kind + 1, Key: key, Value: value, Old: old, Had: true})
				}
			}
		}
	}
	lists := 0
	everyList(4, pairs("a", "", "a", "1", "b", "", "b", "1", "c", "1"), func(m []api.Pair) {
		lists++
		for _, op := range ops {
			want, r := mindDo(m, op)
			mustDo(t, m, op, want, r)
		}
	})
	if lists != 1+5+25+125+625 {
		t.Error(lists)
	}
}

// P9.2: drawn operations on drawn lists of all lengths.
func TestDoAsInMind(t *testing.T) {
	r := row(92)
	swapped := 0
	for range 20000 {
		m, op := r.pairs(one(&r, []int{2, 10, 60})), r.op()
		want, res := mindDo(m, op)
		mustDo(t, m, op, want, res)
		if op.Kind == 4 && res.Found {
			swapped++
		}
	}
	if swapped < 1000 {
		t.Errorf("only %d were swapped", swapped)
	}
}

// P9.2: what Check refuses is refused, with the same error, on whatever list.
func TestDoOfWhatIsRefused(t *testing.T) {
	for _, kind := range []uint8{0, 1, 2, 3, 4, 5, 255} {
		for _, op := range lengthsOf(kind) {
			for _, m := range [][]api.Pair{nil, pairs("a", "1"), pairs(text("k", 33), "1", "", "2")} {
				if want := mindCheck(op); want != api.OK {
					mustNotDo(t, m, op, want)
				} else {
					behind, r := mindDo(m, op)
					mustDo(t, m, op, behind, r)
				}
			}
		}
	}
}

// P9.2: keys and values up to their limits.
func TestDoUpToTheLimits(t *testing.T) {
	key, value, other := text("k", 32), text("v", 2000), text("w", 2000)
	m := mustDo(t, nil, put(key, value), pairs(key, value), done())
	m = mustDo(t, m, swap(key, value, other), pairs(key, other), found())
	mustDo(t, m, get(key), m, has(other))
	mustDo(t, m, swap(key, value, other), m, done())
	mustDo(t, m, del(key), nil, found())
	// What is there already may be longer: a list is any list.
	long := pairs(text("a", 100), text("v", 3000), "", "empty")
	mustDo(t, long, put("b", "1"), pairs(text("a", 100), text("v", 3000), "", "empty", "b", "1"), done())
	mustDo(t, pairs("b", text("v", 3000)), get("b"), pairs("b", text("v", 3000)), has(text("v", 3000)))
}

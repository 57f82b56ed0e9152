package ballot_test

import (
	"math"
	"slices"
	"testing"

	"buttery/api"
)

// P15.3: a store that is a voter and one that is none, at each place; the only one.
func TestTurn(t *testing.T) {
	for _, x := range []struct {
		voters []int
		store  int
		want   []int
	}{
		{list(1, 2), 3, list(1, 2, 3)}, {list(2, 3), 1, list(1, 2, 3)}, {list(1, 3), 2, list(1, 2, 3)},
		{list(1, 2, 3), 1, list(2, 3)}, {list(1, 2, 3), 2, list(1, 3)}, {list(1, 2, 3), 3, list(1, 2)},
		{list(3), 1, list(1, 3)}, {list(3), 5, list(3, 5)}, {list(1, 2), 1, list(2)}, {list(1, 2), 2, list(1)},
		{list(1, 2, 3, 4), 5, list(1, 2, 3, 4, 5)}, {list(2, 3, 4, 5), 1, list(1, 2, 3, 4, 5)}, {list(1, 2, 4, 5), 3, list(1, 2, 3, 4, 5)},
		{list(1, 2, 3, 4, 5), 1, list(2, 3, 4, 5)}, {list(1, 2, 3, 4, 5), 3, list(1, 2, 4, 5)}, {list(1, 2, 3, 4, 5), 5, list(1, 2, 3, 4)},
	} {
		mustTurn(t, x.voters, x.store, x.want...)
	}
	for store := 1; store <= maxStores; store++ {
		mustNotTurn(t, list(store), store, api.ErrState)
	}
}

// P15.3: all voters that may be with all stores; turned twice they are what they were.
func TestTurnOfAll(t *testing.T) {
	left := 0
	for _, voters := range allVoters() {
		for store := 1; store <= maxStores; store++ {
			want, err := mindTurn(voters, store)
			if err != api.OK {
				mustNotTurn(t, voters, store, api.ErrState)
				left++
				continue
			}
			l := mustTurn(t, voters, store, want...)
			mustCheck(t, l, true)
			mustBeNear(t, voters, l, true)
			mustTurn(t, l, store, voters...)
		}
	}
	if left != maxStores {
		t.Error(left)
	}
}

// P15.3: ErrArg for voters that may not be, whatever the store is, and for what is no store; it
// goes ahead of ErrState.
func TestTurnIsRefused(t *testing.T) {
	for _, voters := range wrongVoters() {
		for _, store := range ints() {
			mustNotTurn(t, voters, store, api.ErrArg)
		}
	}
	for _, voters := range allVoters() {
		for _, store := range []int{0, -1, -5, 6, 7, 101, 201, maxCount, math.MinInt, math.MaxInt} {
			mustNotTurn(t, voters, store, api.ErrArg)
		}
	}
}

// P15.3: the same; one more and one less on either side; one exchanged; two more.
func TestNear(t *testing.T) {
	for _, x := range []struct {
		a, b []int
		want bool
	}{
		{list(1, 2, 3), list(1, 2, 3), true}, {list(1), list(1), true},
		{list(1, 2), list(1, 2, 3), true}, {list(1, 2), list(2), true}, {list(2, 3), list(1, 2, 3), true},
		{list(1, 3), list(1, 2, 3), true}, {list(1, 2, 3, 4), list(1, 2, 3, 4, 5), true},
		{list(1, 2), list(1, 3), false}, {list(1), list(2), false}, {list(1, 2, 3), list(1, 2, 4), false}, // exchanged
		{list(1), list(1, 2, 3), false}, {list(1, 2, 3), list(3), false}, {list(1, 2, 3), list(1, 2, 3, 4, 5), false},
		{list(1, 2), list(3, 4), false}, {list(1, 2, 3), list(1, 4, 5), false}, {list(1), list(2, 3), false},
		{list(1, 2, 3, 4, 5), list(1), false}, {list(1, 2), list(2, 3, 4), false},
	} {
		mustBeNear(t, x.a, x.b, x.want)
	}
}

// P15.3: lists without numbers; numbers that come twice; in any order; of any kind.
func TestNearOfAnyLists(t *testing.T) {
	for _, x := range []struct {
		a, b []int
		want bool
	}{
		{nil, nil, true}, {nil, []int{}, true}, {nil, list(1), true}, {[]int{}, list(5), true}, {nil, list(0), true},
		{nil, list(1, 1), true}, {nil, list(1, 1, 1), true}, {nil, list(1, 2), false}, {nil, list(1, 2, 1), false},
		{list(1, 1), list(1), true}, {list(1, 1, 1), list(1), true}, {list(1, 1), list(1, 1, 1), true},
		{list(1, 1), list(1, 2), true}, {list(1, 1), list(2, 2), false}, {list(1, 2), list(1, 3, 3), false},
		{list(1), list(1, 2, 2, 2), true}, {list(1), list(2, 2, 1), true}, {list(1, 1, 2, 2), list(1, 2, 3, 3), true},
		{list(1, 2), list(1, 1, 2, 3, 3, 4), false},
		{list(3, 2, 1), list(1, 2, 3), true}, {list(3, 1), list(2, 1, 3), true}, {list(3, 1), list(1, 2), false},
		{list(2, 1), list(1, 2, 5, 4), false},
		{list(0), list(0), true}, {list(0), list(0, 6), true}, {list(0), list(6), false}, {list(-1, 0, 1), list(1, -1), true},
		{list(math.MinInt, math.MaxInt), list(math.MaxInt), true}, {list(math.MinInt, math.MaxInt), list(0), false},
		{list(math.MinInt), list(math.MaxInt), false}, {list(1, 2, 3, 4, 5, 6, 7), list(7, 6, 5, 4, 3, 2), true},
		{list(1, 2, 3, 4, 5, 6, 7), list(7, 6, 5, 4, 3), false},
	} {
		mustBeNear(t, x.a, x.b, x.want)
	}
}

// P15.3: all lists of stores with all, all short lists with all short lists, and drawn ones.
func TestNearAsInMind(t *testing.T) {
	r := row(3)
	for i := range 1 << maxStores {
		for j := range 1 << maxStores {
			a, b := subset(i), subset(j)
			want := mindNear(a, b)
			mustBeNear(t, a, b, want)
			mustBeNear(t, r.shuffled(a), r.shuffled(b), want)
		}
	}
	short := lists(3, -1, 0, 1, 2, 6)
	for _, a := range short {
		for _, b := range short {
			mustBeNear(t, a, b, mindNear(a, b))
		}
	}
	for range 20000 {
		a := r.numbers(6, ints()...)
		b := r.shuffled(a)
		for range r.next(3) {
			b = append(b, one(&r, ints()))
		}
		b = slices.DeleteFunc(b, func(int) bool { return r.next(6) == 0 })
		mustBeNear(t, a, b, mindNear(a, b))
	}
}

// P15.3: each store's patience.
func TestPatience(t *testing.T) {
	for _, elect := range []int{0, 1, 2, 8, 10, 99, maxTicks - 1, maxTicks, maxCount - maxStores} {
		for id := 1; id <= maxStores; id++ {
			mustWait(t, elect, id, elect+id-1)
		}
	}
	mustWait(t, 0, 1, 0)
	mustWait(t, 0, 5, 4)
	mustWait(t, 8, 1, 8)
	mustWait(t, 8, 2, 9)
	mustWait(t, 8, 3, 10)
	mustWait(t, 1000, 4, 1003)
	mustWait(t, 1000, 5, 1004)
}

package ballot_test

import (
	"fmt"
	"math"
	"slices"
	"testing"

	"buttery/api"
	"buttery/ballot"
)

// everyCall does every call, and is what they told.
func everyCall(a, b []int, i, j int) string {
	turned, err := ballot.Turn(a, i)
	lists := fmt.Sprint(ballot.Check(a), ballot.Won(a, b), ballot.Common(a, b), ballot.Near(a, b), turned, err)
	return lists + fmt.Sprint(ballot.Newer(i, j, j, i), ballot.Grants(i, j, j, i, true), ballot.Grants(j, j, i, i, false), ballot.Patience(i, j))
}

// anyLists are lists of all kinds.
func anyLists() [][]int {
	l := append(wrongVoters(), allVoters()...)
	return append(l, ints(), falling(ints()), append(ints(), ints()...), make([]int, 100))
}

// R1: no call panics, whatever it is handed.
func TestWhateverIsHandedIn(t *testing.T) {
	for _, a := range anyLists() {
		for place, b := range anyLists() {
			i, j := ints()[place%len(ints())], ints()[len(a)%len(ints())]
			everyCall(a, b, i, j)
			everyCall(b, a, j, i)
		}
	}
	for _, i := range ints() {
		for _, j := range ints() {
			everyCall(nil, nil, i, j)
			everyCall(list(i), list(j), i, j)
			everyCall(list(i, j), list(j, i), j, i)
			everyCall(list(i, j, i), nil, i, i)
		}
	}
}

// R1: all calls end, however long a list is, of numbers alike and unlike.
func TestLongLists(t *testing.T) {
	const many = 1 << 14
	var up []int
	for n := range many {
		up = append(up, n+1)
	}
	down := falling(up)
	mustCheck(t, up, false)
	mustCheck(t, down, false)
	mustWin(t, up, down, true)
	mustWin(t, up, down[:many/2], false)
	mustWin(t, up, down[:many/2+1], true)
	mustWin(t, list(1, 2, 3), down, true)
	mustHaveCommon(t, list(1, 2, 3), down, many-1)
	mustHaveCommon(t, up, nil, 0)
	mustHaveCommon(t, down, list(9, 9, 9, 9, 9), 0)
	mustHaveCommon(t, up, down, many/2)
	mustHaveCommon(t, down, up[:many-10], many/2-10)
	mustNotTurn(t, up, 1, api.ErrArg)
	mustBeNear(t, up, down, true)
	mustBeNear(t, up, down[1:], true)
	mustBeNear(t, up, down[2:], false)
	mustBeNear(t, up[1:], down[1:], false)

	alike := slices.Repeat(list(1, 2, 2), 1<<19)
	mustCheck(t, alike, false)
	mustWin(t, alike, list(1), false)
	mustWin(t, alike, list(2, 1), true)
	mustWin(t, list(1, 2, 3), alike, true)
	mustHaveCommon(t, alike, list(4, 3, 9), 3)
	mustHaveCommon(t, list(1, 2, 3), alike, 2)
	mustNotTurn(t, alike, 3, api.ErrArg)
	mustBeNear(t, alike, list(1), true)
	mustBeNear(t, alike, list(1, 3), false)
}

// R2: the same is told again, whatever else was asked between.
func TestAgain(t *testing.T) {
	ask := func() []string {
		r := row(8)
		var told []string
		for range 500 {
			told = append(told, everyCall(r.numbers(6, ints()...), r.numbers(6, ints()...), one(&r, ints()), one(&r, ints())))
			told = append(told, everyCall(r.voters(), r.numbers(6, 0, 1, 2, 3), 1+r.next(maxStores), r.next(9)))
		}
		return told
	}
	want := ask()
	for range 3 {
		if !slices.Equal(ask(), want) {
			t.Fatal("another answer")
		}
	}
}

// R1, R3: what is handed in stays as it is, and what stands behind its end is not looked at, nor
// changed, also where a call is refused.
func TestListsStayAsTheyAre(t *testing.T) {
	r := row(9)
	for _, a := range anyLists() {
		for _, b := range anyLists() {
			i, j := 1+r.next(maxStores), one(&r, ints())
			x, y := roomy(a, 4, 5, 1, 2, 3, 9), roomy(b, 1, 2, 3, 4, 5, 99, -7)
			wasX, wasY := slices.Clone(whole(x)), slices.Clone(whole(y))
			if got, want := everyCall(x, y, i, j), everyCall(a, b, i, j); got != want {
				t.Fatalf("%v %v with room: %s, without %s", a, b, got, want)
			}
			if !slices.Equal(whole(x), wasX) || !slices.Equal(whole(y), wasY) {
				t.Fatalf("%v %v are %v %v now, with their room", wasX, wasY, whole(x), whole(y))
			}
		}
	}
}

// R3: nor are they changed, where a call is handed one list twice, or two that share memory.
func TestListsThatShareMemory(t *testing.T) {
	for _, a := range anyLists() {
		was := slices.Clone(a)
		mustWin(t, a, a, mindWon(was, was))
		mustBeNear(t, a, a, true)
		for n := range a {
			mustWin(t, a, a[n:], mindWon(was, was[n:]))
			mustWin(t, a[:n], a, mindWon(was[:n], was))
			mustBeNear(t, a, a[:n], mindNear(was, was[:n]))
			if mindCheck(a) {
				mustHaveCommon(t, a, a[n:], mindCommon(was, was[n:]))
			}
		}
		if !slices.Equal(a, was) {
			t.Fatalf("%v is %v now", was, a)
		}
	}
}

// R3: what Turn tells is new memory, its spare room too: writing there changes no voters that were
// handed in, nor the other way round, nor what is told another time.
func TestToldVotersAreNew(t *testing.T) {
	for _, was := range allVoters() {
		for store := 1; store <= maxStores; store++ {
			want, err := mindTurn(was, store)
			if err != api.OK {
				continue
			}
			for room := range 4 {
				voters := roomy(was, list(8, 8, 8)[:room]...)
				kept := slices.Clone(whole(voters))
				one, other := mustTurn(t, voters, store, want...), mustTurn(t, voters, store, want...)
				spoil(one, -9)
				if !slices.Equal(whole(voters), kept) {
					t.Fatalf("what was told was written over: %v is %v now", kept, whole(voters))
				}
				if !slices.Equal(other, want) {
					t.Fatalf("what was told once was written over: %v is %v now", want, other)
				}
				again := mustTurn(t, voters, store, want...)
				spoil(voters, -7)
				if !slices.Equal(other, want) || !slices.Equal(again, want) {
					t.Fatalf("what was handed in was written over: %v is %v and %v now", want, other, again)
				}
			}
		}
	}
}

// R3, R4: what is refused stays as it is, too, and nothing is told beside an error.
func TestRefusedIsNotChanged(t *testing.T) {
	for _, was := range append(wrongVoters(), list(1), list(3), list(5)) {
		for _, store := range append(ints(), was...) {
			if _, err := mindTurn(was, store); err == api.OK {
				continue
			}
			voters := roomy(was, 8, 8)
			kept := slices.Clone(whole(voters))
			_, err := mindTurn(was, store)
			mustNotTurn(t, voters, store, err)
			if !slices.Equal(whole(voters), kept) {
				t.Fatalf("Turn(%v, %d): %v now", kept, store, whole(voters))
			}
		}
	}
}

// R6: an empty list is as good as none.
func TestEmptyLists(t *testing.T) {
	for _, empty := range [][]int{nil, {}, list(1, 2, 3)[:0], list(1)[1:]} {
		mustCheck(t, empty, false)
		mustWin(t, empty, list(1), false)
		mustWin(t, empty, empty, false)
		mustWin(t, list(1), empty, false)
		mustHaveCommon(t, empty, list(1, 2, 3), 0)
		mustHaveCommon(t, empty, empty, 0)
		mustHaveCommon(t, list(1), empty, 0)
		mustNotTurn(t, empty, 1, api.ErrArg)
		mustNotTurn(t, empty, math.MaxInt, api.ErrArg)
		mustBeNear(t, empty, nil, true)
		mustBeNear(t, empty, list(2), true)
		mustBeNear(t, empty, list(1, 2), false)
	}
}

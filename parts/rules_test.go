package parts_test

import (
	"math"
	"slices"
	"testing"

	"buttery/api"
	"buttery/parts"
)

// anything are bytes of all kinds.
func anything() [][]byte {
	l := slices.Concat(cut(5, message(1, 1000)), cut(0, ""), badBodies())
	for _, b := range badBodies() {
		l = append(l, frame(1, b))
	}
	return append(l, nil, []byte{1}, make([]byte, 400), make([]byte, 1<<20), []byte(text("\xff", 9000)))
}

// R1: no call panics, whatever it is handed, and all end.
func TestWhateverIsHandedIn(t *testing.T) {
	j := parts.New()
	for _, n := range ints() {
		for _, b := range anything() {
			l, err := parts.Cut(n, b)
			if (err == api.OK) != (len(l) > 0) {
				t.Errorf("Cut(%d, %d bytes): %d packets, %v", n, len(b), len(l), err)
			}
			j.Take(n, b)
			if j.Len() > maxWaits || j.Len() < 0 {
				t.Fatal("Len:", j.Len())
			}
		}
	}
	parts.Cut(0, make([]byte, 1<<26))
	j.Take(0, make([]byte, 1<<26))
}

// R1: nor do drawn bytes, whose sums are right.
func TestDrawnBodies(t *testing.T) {
	r := row(1)
	j := parts.New()
	for range 20000 {
		b := make([]byte, r.next(12))
		for i := range b {
			b[i] = byte(one(&r, []int{0, 1, 2, 3, 5, 21, 22, 23, 127, 128, 255}))
		}
		msg, whole, err := j.Take(r.next(3), frame(1, b))
		if err != api.OK && (whole || len(msg) > 0) || !whole && len(msg) > 0 || j.Len() > maxWaits {
			t.Fatalf("% x: %s, %v, %v, Len %d", b, shown(msg), whole, err, j.Len())
		}
	}
}

// R1: joiners that were not made by the package panic nowhere.
func TestJoinerMadeOtherwise(t *testing.T) {
	for _, j := range []*parts.Joiner{new(parts.Joiner), {}} {
		for _, from := range ints() {
			for _, b := range anything() {
				j.Take(from, b)
				j.Len()
			}
		}
	}
}

// R1: nor do two of which one was made of the other by the language's own copying.
func TestJoinerCopiedByItsValue(t *testing.T) {
	for seed := range 100 {
		r := row(seed)
		j := parts.New()
		for range 40 {
			j.Take(r.next(2), r.piece(20, 3).packet())
		}
		c := *j
		for range 400 {
			x := one(&r, []*parts.Joiner{j, &c})
			x.Take(r.next(2), r.piece(20, 3).packet())
			x.Len()
		}
	}
}

// R2: joiners do not see one another.
func TestJoinersAreApart(t *testing.T) {
	a, b := parts.New(), parts.New()
	mustWait(t, a, 1, packet(3, 0, 2, full()), 1)
	mustLen(t, "the other one", b, 0)
	mustWait(t, b, 1, packet(3, 1, 2, "z"), 1)
	mustTell(t, b, 1, packet(3, 0, 2, text("b", maxData)), text("b", maxData)+"z", 0)
	mustLen(t, "the one", a, 1)
	mustTell(t, a, 1, packet(3, 1, 2, "y"), full()+"y", 0)
}

// R2: the same is answered again, in any number of joiners.
func TestAgain(t *testing.T) {
	for seed := range 20 {
		var first []string
		for again := range 5 {
			r, j := row(seed), parts.New()
			for step := range 300 {
				msg, whole, err := j.Take(r.next(3), r.piece(30, 3).packet())
				told := shown([]any{msg, whole, err, j.Len()})
				if again == 0 {
					first = append(first, told)
				} else if told != first[step] {
					t.Fatalf("seed %d, step %d: %s, and first %s", seed, step, told, first[step])
				}
			}
		}
	}
}

// R5: the errors in their order: a number that may not be with a message that is too long.
func TestOrderOfErrors(t *testing.T) {
	mustNotCut(t, -1, maxBody+1, api.ErrArg)
	mustNotCut(t, math.MinInt, maxBody+1, api.ErrArg)
	mustNotCut(t, 0, maxBody+1, api.ErrTooLarge)
	var j *parts.Joiner
	mustNotTake(t, j, 1, []byte("x"), api.ErrNil)
	broken := frame(2, []byte("x")) // a wrong sum, and another kind
	broken[3]++
	mustNotTake(t, parts.New(), 1, broken, api.ErrSum)
}

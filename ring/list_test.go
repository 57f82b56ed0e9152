package ring_test

import (
	"testing"

	"buttery/ring"
)

// P4.4: records of many lengths, till there is no room for more, emptied, and so more than
// once round the ring: Open tells them behind each call.
func TestAsAList(t *testing.T) {
	for _, count := range []int{1, 2, 3, 5, 8, 17} {
		for _, base := range []int{0, 1, 7, 1 << 33, ring.MaxNumber - 400} {
			p := begin(t, count%3, count, base)
			x := row(count + base)
			for p.r.Top() < base+4*count {
				n := x.next(min(count, 4)*ring.Data + 1)
				if x.next(3) == 0 {
					n = ring.Data*x.next(count+1) + x.next(3)
				}
				if p.expected(n) != 0 && x.next(4) == 0 {
					p.do(t, anEmpty)
				}
				p.do(t, n)
				p.mustBeWhole(t)
			}
		}
	}
}

// P4.4: the ring is filled to its last sector, by each number of pieces, over and over.
func TestFullRings(t *testing.T) {
	for count := 1; count < 9; count++ {
		for pieces := 1; pieces <= count; pieces++ {
			p := begin(t, 1, count, 0)
			for range 3 * count {
				for range count / pieces {
					p.do(t, pieces*ring.Data)
				}
				for p.r.Room() > 0 {
					p.do(t, 0)
				}
				p.do(t, 1)
				p.mustBeWhole(t)
				if len(p.records) != count/pieces+count%pieces {
					t.Fatalf("%d of %d: %s", pieces, count, short(p.records))
				}
				p.do(t, anEmpty)
				p.mustBeWhole(t)
			}
		}
	}
}

// P4.4: all rows of five calls.
func TestAllRowsAsAList(t *testing.T) {
	for _, count := range []int{1, 2, 3, 4} {
		for _, calls := range allRows(5, 0, 3, ring.Data+1, aSync, anEmpty) {
			p := begin(t, 1, count, 0)
			p.play(t, calls)
			p.mustBeWhole(t)
		}
	}
}

// P4.4: a ring that is opened again between any two calls goes on as one that is not.
func TestOpenedAgain(t *testing.T) {
	for _, calls := range allRows(4, 0, 3, ring.Data+1, aSync, anEmpty) {
		p := begin(t, 0, 4, 2)
		for _, call := range calls {
			p.r, _ = mustOpen(t, p.d, p.first, p.count, p.base)
			p.do(t, call)
			p.mustBeWhole(t)
		}
	}
}

// allRows are all rows of n of these calls.
func allRows(n int, some ...int) [][]int {
	l := [][]int{nil}
	for range n {
		var more [][]int
		for _, calls := range l {
			for _, call := range some {
				more = append(more, append(calls[:len(calls):len(calls)], call))
			}
		}
		l = more
	}
	return l
}

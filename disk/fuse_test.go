package disk_test

import (
	"math"
	"slices"
	"testing"

	"buttery/api"
	"buttery/disk"
)

// P3.2: a fuse of 0, of 1 and more, met by a Write: it waits first.
func TestFuseMetByWrite(t *testing.T) {
	for _, k := range []int{0, 1, 2, 3, 10} {
		for _, kept := range []bool{false, true} {
			d := mustNew(t, 2)
			must(t, "Fuse", d.Fuse(k, append(make([]bool, k), kept)), api.OK)
			for i := range k {
				must(t, "Write ahead of the fuse", d.Write(0, full(byte(i+1))), api.OK)
			}
			mustStand(t, "ahead of the fuse", d, k, k, false)
			must(t, "Write that meets the fuse", d.Write(1, full(77)), api.ErrDead)
			mustStand(t, "behind the fuse", d, 0, k, true)
			must(t, "Write behind the fuse", d.Write(1, full(78)), api.ErrDead)
			want := byte(0)
			if kept {
				want = 77
			}
			mustLast(t, d, 0, want)
		}
	}
}

// P3.2: a fuse met by a Flush: nothing is flushed, but what is kept.
func TestFuseMetByFlush(t *testing.T) {
	for k := range 5 {
		d := mustNew(t, 5)
		must(t, "Fuse", d.Fuse(k, []bool{false, true, false, true}), api.OK)
		for i := range k {
			must(t, "Write ahead of the fuse", d.Write(i, full(byte(i+1))), api.OK)
		}
		must(t, "Flush that meets the fuse", d.Flush(), api.ErrDead)
		mustStand(t, "behind the fuse", d, 0, k, true)
		must(t, "Flush behind the fuse", d.Flush(), api.ErrDead)
		want := make([]byte, 5)
		for i := range k {
			if i%2 == 1 {
				want[i] = byte(i + 1)
			}
		}
		mustLast(t, d, want...)
	}
}

// P3.2: Writes and Flushes count alike, and of what waits nothing is numbered anew but by a Flush.
func TestFuseCountsFlushes(t *testing.T) {
	d := mustNew(t, 3)
	must(t, "Write", d.Write(2, full(9)), api.OK)
	must(t, "Fuse", d.Fuse(3, []bool{false, true}), api.OK)
	must(t, "Flush", d.Flush(), api.OK)
	must(t, "Write", d.Write(0, full(1)), api.OK)
	must(t, "Flush", d.Flush(), api.OK)
	mustStand(t, "ahead of the fuse", d, 0, 4, false)
	must(t, "Write that meets the fuse", d.Write(1, full(2)), api.ErrDead)
	mustStand(t, "behind the fuse", d, 0, 4, true)
	mustLast(t, d, 1, 0, 9)
}

// P3.2: what waited ahead of the fuse has its place in keep, too.
func TestFuseKeepsWhatWaited(t *testing.T) {
	d := mustNew(t, 3)
	must(t, "Write", d.Write(0, full(1)), api.OK)
	must(t, "Write", d.Write(1, full(2)), api.OK)
	must(t, "Fuse", d.Fuse(0, []bool{false, true, true}), api.OK)
	must(t, "Write", d.Write(2, full(3)), api.ErrDead)
	mustLast(t, d, 0, 2, 3)
}

// P3.2: a fuse takes the place of the one there was, be that shorter or longer.
func TestFuseInThePlaceOfAnother(t *testing.T) {
	for _, first := range []int{0, 1, 5, math.MaxInt} {
		for k := range 4 {
			d := mustNew(t, 1)
			must(t, "Fuse", d.Fuse(first, []bool{true, true, true, true, true}), api.OK)
			must(t, "Fuse", d.Fuse(k, nil), api.OK)
			for range k {
				must(t, "Write ahead of the fuse", d.Write(0, full(1)), api.OK)
			}
			must(t, "Write that meets the fuse", d.Write(0, full(2)), api.ErrDead)
			mustLast(t, d, 0)
		}
	}
}

// P3.2: a fuse is not kept as a list that the caller may change, nor changed.
func TestFuseKeepIsNotKept(t *testing.T) {
	d := mustNew(t, 2)
	keep := []bool{true, false}
	must(t, "Fuse", d.Fuse(1, keep), api.OK)
	keep[0], keep[1] = false, true
	must(t, "Write", d.Write(0, full(1)), api.OK)
	must(t, "Write", d.Write(1, full(2)), api.ErrDead)
	mustLast(t, d, 1, 0)
	if !slices.Equal(keep, []bool{false, true}) {
		t.Error("the fuse changed the keep that it was handed")
	}
}

// P3.2: a fuse below 0 is refused, and the one there was stays.
func TestFuseBelowZero(t *testing.T) {
	for _, k := range []int{-1, -2, math.MinInt} {
		d := mustNew(t, 1)
		must(t, "Fuse", d.Fuse(k, []bool{true}), api.ErrArg)
		for range 3 {
			must(t, "Write without a fuse", d.Write(0, full(1)), api.OK)
			must(t, "Flush without a fuse", d.Flush(), api.OK)
		}
		must(t, "Fuse", d.Fuse(1, []bool{false, true}), api.OK)
		must(t, "Fuse", d.Fuse(k, nil), api.ErrArg)
		must(t, "Write ahead of the fuse", d.Write(0, full(2)), api.OK)
		must(t, "Write that meets the fuse", d.Write(0, full(3)), api.ErrDead)
		mustLast(t, d, 3)
	}
}

// P3.2: a fuse of 0 that keeps nothing is a fuse, though each of its fields is a zero.
func TestFuseOfNothing(t *testing.T) {
	for _, keep := range [][]bool{nil, {}} {
		d := written(t, 1, nil, []put{{0, 3}})
		must(t, "Fuse", d.Fuse(0, keep), api.OK)
		mustStand(t, "a disk with a fuse", d, 1, 2, false)
		mustRead(t, d, 0, 3)
		must(t, "Flush", d.Flush(), api.ErrDead)
		mustLast(t, d, 0)
	}
}

// P3.2: a fuse of many does nothing for long, and Crash does not wait for it.
func TestFuseOfMany(t *testing.T) {
	d := mustNew(t, 1)
	must(t, "Fuse", d.Fuse(math.MaxInt, []bool{true}), api.OK)
	for range 1000 {
		must(t, "Write", d.Write(0, full(1)), api.OK)
	}
	must(t, "Crash", d.Crash(nil), api.OK)
	mustLast(t, d, 0)
}

// P3.2: a copy has the fuse as it stands, and each has its own from then on.
func TestFuseOfCopy(t *testing.T) {
	d := mustNew(t, 2)
	must(t, "Fuse", d.Fuse(2, []bool{false, true, true}), api.OK)
	must(t, "Write", d.Write(0, full(1)), api.OK)
	c := d.Copy()
	must(t, "Write to the disk", d.Write(0, full(2)), api.OK)
	must(t, "Write to the disk", d.Write(1, full(3)), api.ErrDead)
	mustStand(t, "the copy", c, 1, 1, false)
	must(t, "Write to the copy", c.Write(1, full(4)), api.OK)
	must(t, "Flush of the copy", c.Flush(), api.ErrDead)
	mustLast(t, d, 2, 3)
	mustLast(t, c, 0, 4)
}

// P3.2: a fuse that is set on a copy is not on the disk, and the other way round.
func TestFusesAreApart(t *testing.T) {
	d := mustNew(t, 1)
	c := d.Copy()
	must(t, "Fuse of the copy", c.Fuse(0, nil), api.OK)
	must(t, "Flush of the disk", d.Flush(), api.OK)
	e := d.Copy()
	must(t, "Fuse of the disk", d.Fuse(0, nil), api.OK)
	must(t, "Flush of what was copied ahead", e.Flush(), api.OK)
	must(t, "Flush of the copy", c.Flush(), api.ErrDead)
	must(t, "Flush of the disk", d.Flush(), api.ErrDead)
}

// refused makes calls that are refused, or that are no Write or Flush: no fuse counts them.
func refused(t *testing.T, d *disk.Disk) {
	t.Helper()
	for _, i := range far(d.Len()) {
		must(t, "Write past the end", d.Write(i, full(200)), api.ErrArg)
		mustNotRead(t, d, i, api.ErrArg)
	}
	for _, b := range wrong() {
		must(t, "Write of wrong bytes", d.Write(0, b), api.ErrArg)
	}
	must(t, "Fuse below 0", d.Fuse(-1, []bool{true}), api.ErrArg)
	if _, err := d.Reopen(); err != api.ErrState {
		t.Fatalf("Reopen of a disk that lives: %v", err)
	}
	d.Read(0)
	d.Copy()
}

// twoWays does calls behind a fuse of k; and, on another disk, does the same without a
// fuse, and crashes it at the place of which P3.5 speaks. Both must end alike.
func twoWays(t *testing.T, k int, keep []bool, l []call) {
	t.Helper()
	fused, plain := mustNew(t, 3), mustNew(t, 3)
	for _, d := range []*disk.Disk{fused, plain} {
		must(t, "Write ahead of all", d.Write(2, full(50)), api.OK)
	}
	must(t, "Fuse", fused.Fuse(k, keep), api.OK)
	for i, x := range l {
		refused(t, fused)
		_, err := do(fused, x)
		if i < k {
			must(t, "a call ahead of the fuse", err, api.OK)
			_, err = do(plain, x)
			must(t, "the same call without a fuse", err, api.OK)
			continue
		}
		must(t, "the call that meets the fuse", err, api.ErrDead)
		if x.kind == aWrite {
			must(t, "the Write that waits by then", plain.Write(x.n, full(x.c)), api.OK)
		}
		break
	}
	if k >= len(l) {
		mustStand(t, "a fuse that was not met", fused, plain.Waits(), plain.Done(), false)
		must(t, "Crash", fused.Crash(keep), api.OK)
	}
	must(t, "Crash", plain.Crash(keep), api.OK)
	mustStand(t, "behind the fuse", fused, 0, min(k, len(l))+1, true)
	a, b := mustReopen(t, fused), mustReopen(t, plain)
	for i := range 3 {
		want, err := b.Read(i)
		must(t, "Read", err, api.OK)
		mustRead(t, a, i, want[0])
	}
}

// P3.5: a fuse does what Crash does ahead of the Write or Flush k + 1: for all rows of three
// Writes and Flushes, each k and every keep, with refused calls between.
func TestFuseAgainstCrash(t *testing.T) {
	some := []call{{kind: aWrite, n: 0, c: 1}, {kind: aWrite, n: 1, c: 2}, {kind: aWrite, n: 0, c: 3}, {kind: aFlush}}
	for _, one := range some {
		for _, two := range some {
			for _, three := range some {
				for k := range 4 {
					for _, keep := range allKeeps(4) {
						twoWays(t, k, keep, []call{one, two, three})
					}
				}
			}
		}
	}
}

// P3.5: the same in long rows.
func TestFuseAgainstCrashInLongRows(t *testing.T) {
	for seed := range 60 {
		r := row(seed)
		var l []call
		for range 12 {
			if r.next(4) == 0 {
				l = append(l, call{kind: aFlush})
			} else {
				l = append(l, call{kind: aWrite, n: r.next(3), c: byte(r.next(40) + 1)})
			}
		}
		for k := range len(l) + 1 {
			twoWays(t, k, r.keeps(r.next(14)), l)
		}
	}
}

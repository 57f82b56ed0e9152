package disk_test

import (
	"slices"
	"testing"

	"buttery/api"
	"buttery/disk"
)

// written is a disk on which some writes were flushed, and the others wait.
func written(t *testing.T, n int, flushed, waits []put) *disk.Disk {
	t.Helper()
	d := mustNew(t, n)
	for _, w := range flushed {
		must(t, "Write", d.Write(w.at, full(w.c)), api.OK)
	}
	must(t, "Flush", d.Flush(), api.OK)
	for _, w := range waits {
		must(t, "Write", d.Write(w.at, full(w.c)), api.OK)
	}
	return d
}

// mustLast asks what each sector reads as behind Reopen.
func mustLast(t *testing.T, d *disk.Disk, want ...byte) {
	t.Helper()
	e := mustReopen(t, d)
	mustStand(t, "behind Reopen", e, 0, 0, false)
	if e.Len() != len(want) {
		t.Fatalf("behind Reopen: Len %d, want %d", e.Len(), len(want))
	}
	for i, c := range want {
		mustRead(t, e, i, c)
	}
}

// P3.2: a keep that is as long as what waits, shorter, longer, and none.
func TestCrashOfEachKeep(t *testing.T) {
	for _, x := range []struct {
		keep []bool
		want []byte
	}{
		{nil, []byte{1, 2, 0}},
		{[]bool{}, []byte{1, 2, 0}},
		{[]bool{false, false, false}, []byte{1, 2, 0}},
		{[]bool{true, false, false}, []byte{1, 3, 0}},
		{[]bool{false, true, false}, []byte{1, 2, 4}},
		{[]bool{false, false, true}, []byte{1, 5, 0}},
		{[]bool{true, true, true}, []byte{1, 5, 4}},
		{[]bool{true, true, false}, []byte{1, 3, 4}},
		{[]bool{true}, []byte{1, 3, 0}},
		{[]bool{false, true}, []byte{1, 2, 4}},
		{[]bool{true, false, true, true, true}, []byte{1, 5, 0}},
		{[]bool{false, false, false, true, true}, []byte{1, 2, 0}},
	} {
		d := written(t, 3, []put{{0, 1}, {1, 2}}, []put{{1, 3}, {2, 4}, {1, 5}})
		keep := slices.Clone(x.keep)
		must(t, "Crash", d.Crash(keep), api.OK)
		mustStand(t, "behind a Crash", d, 0, 6, true)
		mustLast(t, d, x.want...)
		if !slices.Equal(keep, x.keep) {
			t.Errorf("Crash changed the keep %v to %v", x.keep, keep)
		}
	}
}

// P3.2, R3: a keep is not read beyond its length, by Crash nor by a fuse.
func TestKeepIsNotReadBeyond(t *testing.T) {
	room := []bool{true, true, true}
	d := written(t, 2, nil, []put{{0, 3}, {1, 4}})
	must(t, "Crash", d.Crash(room[:1]), api.OK)
	mustLast(t, d, 3, 0)
	d = written(t, 2, nil, []put{{0, 3}, {1, 4}})
	must(t, "Fuse", d.Fuse(0, room[:1]), api.OK)
	must(t, "Flush", d.Flush(), api.ErrDead)
	mustLast(t, d, 3, 0)
}

// P3.2: a crash with nothing that waits, and one of a new disk.
func TestCrashOfNothing(t *testing.T) {
	d := written(t, 2, []put{{1, 7}}, nil)
	must(t, "Crash", d.Crash([]bool{true, true}), api.OK)
	mustLast(t, d, 0, 7)
	d = mustNew(t, 2)
	must(t, "Crash", d.Crash(nil), api.OK)
	mustStand(t, "a new disk that crashed", d, 0, 0, true)
	mustLast(t, d, 0, 0)
}

// P3.2: Reopen of a disk that lives is refused; of a dead one it is a disk as new, but for
// what lasts; the dead one stays dead, and gives others, each of which goes its own way.
func TestReopen(t *testing.T) {
	d := written(t, 2, []put{{0, 1}}, []put{{1, 2}})
	if e, err := d.Reopen(); err != api.ErrState || e != nil {
		t.Fatalf("Reopen of a disk that lives: a disk %v, %v", e != nil, err)
	}
	must(t, "Fuse", d.Fuse(1, []bool{true}), api.OK)
	must(t, "Crash", d.Crash([]bool{true}), api.OK)
	e := mustReopen(t, d)
	mustStand(t, "behind Reopen", e, 0, 0, false)
	for i := range 5 {
		must(t, "Write: the fuse is gone", e.Write(0, full(byte(10+i))), api.OK)
		must(t, "Flush: the fuse is gone", e.Flush(), api.OK)
	}
	mustStand(t, "behind Reopen, used", e, 0, 10, false)
	mustStand(t, "the dead one", d, 0, 3, true)
	mustNotRead(t, d, 0, api.ErrDead)
	mustLast(t, d, 1, 2)
	f := mustReopen(t, d)
	must(t, "Write", f.Write(1, full(9)), api.OK)
	must(t, "Flush", f.Flush(), api.OK)
	mustRead(t, e, 0, 14)
	mustRead(t, e, 1, 2)
	mustLast(t, d, 1, 2)
}

// P3.2: behind a fuse a disk is reopened as behind Crash, without a fuse.
func TestReopenBehindFuse(t *testing.T) {
	d := mustNew(t, 2)
	must(t, "Fuse", d.Fuse(0, []bool{true}), api.OK)
	must(t, "Write", d.Write(1, full(4)), api.ErrDead)
	mustStand(t, "behind the fuse", d, 0, 0, true)
	e := mustReopen(t, d)
	mustRead(t, e, 1, 4)
	must(t, "Write", e.Write(0, full(5)), api.OK)
	must(t, "Flush", e.Flush(), api.OK)
	mustStand(t, "behind Reopen", e, 0, 2, false)
}

// P3.2: a copy stands as the disk does, and each goes its own way.
func TestCopyGoesItsOwnWay(t *testing.T) {
	d := written(t, 3, []put{{0, 1}}, []put{{1, 2}, {1, 3}})
	c := d.Copy()
	for i, want := range []byte{1, 3, 0} {
		mustRead(t, c, i, want)
	}
	mustStand(t, "the copy", c, 2, 4, false)
	must(t, "Write to the copy", c.Write(0, full(5)), api.OK)
	must(t, "Write to the disk", d.Write(0, full(6)), api.OK)
	must(t, "Write to the disk", d.Write(2, full(7)), api.OK)
	mustStand(t, "the copy", c, 3, 5, false)
	mustStand(t, "the disk", d, 4, 6, false)
	for i, want := range []byte{5, 3, 0} {
		mustRead(t, c, i, want)
	}
	must(t, "Flush of the disk", d.Flush(), api.OK)
	must(t, "Crash of the copy", c.Crash([]bool{true, false, true}), api.OK)
	mustStand(t, "the disk", d, 0, 7, false)
	for i, want := range []byte{6, 3, 7} {
		mustRead(t, d, i, want)
	}
	mustLast(t, c, 5, 2, 0)
	must(t, "Crash of the disk", d.Crash(nil), api.OK)
	mustLast(t, d, 6, 3, 7)
	mustLast(t, c, 5, 2, 0)
}

// P3.2: copies that are written to in turns do not see one another's writes that wait.
func TestCopiesThatGrow(t *testing.T) {
	d := mustNew(t, 4)
	for n := range 40 {
		c := d.Copy()
		must(t, "Write to the copy", c.Write(0, full(200)), api.OK)
		must(t, "Write to the disk", d.Write(n%4, full(byte(n+1))), api.OK)
		must(t, "Write to the copy", c.Write(1, full(201)), api.OK)
		e := d.Copy()
		keep := make([]bool, n+1)
		keep[n] = true
		must(t, "Crash", e.Crash(keep), api.OK)
		want := make([]byte, 4)
		want[n%4] = byte(n + 1)
		mustLast(t, e, want...)
		must(t, "Crash", c.Crash(append(make([]bool, n), true)), api.OK)
		mustLast(t, c, 200, 0, 0, 0)
	}
}

// P3.2: a copy of a dead disk is dead, and has what lasts.
func TestCopyOfDead(t *testing.T) {
	d := written(t, 2, []put{{0, 1}}, []put{{1, 2}})
	must(t, "Crash", d.Crash([]bool{true}), api.OK)
	c := d.Copy()
	mustStand(t, "the copy", c, 0, 3, true)
	if c.Len() != 2 {
		t.Errorf("the copy: Len %d", c.Len())
	}
	mustNotRead(t, c, 0, api.ErrDead)
	must(t, "Write", c.Write(0, full(1)), api.ErrDead)
	mustLast(t, c, 1, 2)
}

// P3.2: a copy of a copy of what was reopened.
func TestCopyOfCopy(t *testing.T) {
	d := written(t, 2, []put{{0, 1}}, nil)
	must(t, "Crash", d.Crash(nil), api.OK)
	e := mustReopen(t, d)
	must(t, "Write", e.Write(1, full(2)), api.OK)
	c := e.Copy().Copy()
	mustStand(t, "the copy", c, 1, 1, false)
	must(t, "Flush", c.Flush(), api.OK)
	must(t, "Write", c.Write(0, full(3)), api.OK)
	mustStand(t, "what it is a copy of", e, 1, 1, false)
	mustRead(t, e, 0, 1)
	mustRead(t, c, 0, 3)
	must(t, "Crash", e.Crash(nil), api.OK)
	mustLast(t, e, 1, 0)
}

// manyWrites are n writes to a disk of so many sectors, no two of which say the same.
func manyWrites(r *row, sectors, n int, from byte) []put {
	var l []put
	for i := range n {
		l = append(l, put{r.next(sectors), from + byte(i)})
	}
	return l
}

// P3.3: behind crashes of every keep a sector of which no write was made since the last
// flush reads as it did.
func TestWhatWasFlushedLasts(t *testing.T) {
	const n = 6
	for seed := range 30 {
		r := row(seed)
		d := written(t, n, manyWrites(&r, n, 8, 1), manyWrites(&r, 3, 5, 100))
		for _, keep := range allKeeps(5) {
			c := d.Copy()
			must(t, "Crash", c.Crash(keep), api.OK)
			e := mustReopen(t, c)
			for i := 3; i < n; i++ {
				was, err := d.Read(i)
				must(t, "Read", err, api.OK)
				mustRead(t, e, i, was[0])
			}
		}
	}
}

// P3.3: what was flushed in several flushes lasts, though much was written over.
func TestManyFlushesLast(t *testing.T) {
	d := mustNew(t, 3)
	for n := range 20 {
		must(t, "Write", d.Write(n%3, full(byte(n+1))), api.OK)
		must(t, "Flush", d.Flush(), api.OK)
		c := d.Copy()
		must(t, "Crash", c.Crash([]bool{true, true, true}), api.OK)
		e := mustReopen(t, c)
		for i := range 3 {
			b, err := d.Read(i)
			must(t, "Read", err, api.OK)
			mustRead(t, e, i, b[0])
		}
	}
	mustRead(t, d, 0, 19)
	mustRead(t, d, 1, 20)
	mustRead(t, d, 2, 18)
}

// P3.4: behind a crash each sector is what lasted, or what the last write of it said that
// was kept; with several writes of one sector, and every keep.
func TestOneOrTheOther(t *testing.T) {
	const n = 3
	for seed := range 40 {
		r := row(seed)
		flushed, waits := manyWrites(&r, n, 4, 1), manyWrites(&r, n, 6, 100)
		for _, keep := range allKeeps(6) {
			d := written(t, n, flushed, waits)
			must(t, "Crash", d.Crash(keep), api.OK)
			var want [n]byte
			for _, w := range flushed {
				want[w.at] = w.c
			}
			for i, w := range waits {
				if keep[i] {
					want[w.at] = w.c
				}
			}
			mustLast(t, d, want[:]...)
		}
	}
}

// P3.4: of a sector that was written three times, any one of the three, or what lasted.
func TestSeveralWritesOfOneSector(t *testing.T) {
	want := []byte{1, 4, 3, 4, 2, 4, 3, 4}
	for i, keep := range allKeeps(3) {
		d := written(t, 1, []put{{0, 1}}, []put{{0, 2}, {0, 3}, {0, 4}})
		must(t, "Crash", d.Crash(keep), api.OK)
		mustLast(t, d, want[i])
	}
}

// P3.4: a sector is kept whole, or not at all.
func TestSectorsAreWhole(t *testing.T) {
	for _, keep := range allKeeps(1) {
		d := mustNew(t, 1)
		b := full(0)
		b[0], b[api.SectorSize-1] = 1, 2
		must(t, "Write", d.Write(0, b), api.OK)
		must(t, "Crash", d.Crash(keep), api.OK)
		got, err := mustReopen(t, d).Read(0)
		must(t, "Read", err, api.OK)
		want := full(0)
		if keep[0] {
			want = b
		}
		if !slices.Equal(got, want) {
			t.Errorf("keep %v: a sector that is neither", keep)
		}
	}
}

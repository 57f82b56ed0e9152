package disk_test

import (
	"bytes"
	"math"
	"slices"
	"testing"

	"buttery/api"
	"buttery/disk"
)

// P3.1: how many sectors a disk may have.
func TestNewOfAsMany(t *testing.T) {
	for _, n := range []int{1, 2, 3, 2000, api.MaxSectors - 1, api.MaxSectors} {
		d, err := disk.New(n)
		if err != api.OK || d == nil || d.Len() != n {
			t.Errorf("New(%d): Len %d, %v", n, d.Len(), err)
		}
		mustStand(t, "a new disk", d, 0, 0, false)
	}
	for _, n := range []int{0, -1, -2, math.MinInt, api.MaxSectors + 1, api.MaxSectors + 2, math.MaxInt} {
		if d, err := disk.New(n); err != api.ErrArg || d != nil {
			t.Errorf("New(%d): a disk %v, %v, want ErrArg", n, d != nil, err)
		}
	}
}

// P3.1: each sector is all 0 at first, and no other one is there.
func TestSectorsAtFirst(t *testing.T) {
	for _, n := range []int{1, 2, 7, api.MaxSectors} {
		d := mustNew(t, n)
		for i := range n {
			mustRead(t, d, i, 0)
		}
		for _, i := range far(n) {
			mustNotRead(t, d, i, api.ErrArg)
		}
		mustStand(t, "behind Reads", d, 0, 0, false)
	}
}

// P3.1: what is written is read at once, and of that sector alone; all bytes of it.
func TestWriteThenRead(t *testing.T) {
	const n = 5
	for at := range n {
		d := mustNew(t, n)
		b := make([]byte, api.SectorSize)
		for i := range b {
			b[i] = byte(i*7 + i/256 + at)
		}
		must(t, "Write", d.Write(at, b), api.OK)
		mustStand(t, "behind a Write", d, 1, 1, false)
		for i := range n {
			if i != at {
				mustRead(t, d, i, 0)
				continue
			}
			if got, err := d.Read(i); err != api.OK || !bytes.Equal(got, b) {
				t.Errorf("Read(%d): other bytes than were written, %v", i, err)
			}
		}
	}
}

// P3.1: the first and the last sector of the largest disk.
func TestLargestDisk(t *testing.T) {
	d := mustNew(t, api.MaxSectors)
	must(t, "Write", d.Write(0, full(1)), api.OK)
	must(t, "Write", d.Write(api.MaxSectors-1, full(2)), api.OK)
	must(t, "Write", d.Write(api.MaxSectors, full(3)), api.ErrArg)
	must(t, "Flush", d.Flush(), api.OK)
	must(t, "Crash", d.Crash(nil), api.OK)
	d = mustReopen(t, d)
	mustRead(t, d, 0, 1)
	mustRead(t, d, 1, 0)
	mustRead(t, d, api.MaxSectors-1, 2)
}

// P3.1: of several writes of one sector the last one is read, ahead of a flush and behind it.
func TestSecondWrite(t *testing.T) {
	d := mustNew(t, 3)
	for i, c := range []byte{9, 8, 7, 8} {
		must(t, "Write", d.Write(1, full(c)), api.OK)
		mustStand(t, "behind a Write", d, i+1, i+1, false)
		mustRead(t, d, 1, c)
	}
	must(t, "Flush", d.Flush(), api.OK)
	mustStand(t, "behind a Flush", d, 0, 5, false)
	mustRead(t, d, 1, 8)
	must(t, "Write", d.Write(1, full(0)), api.OK)
	mustRead(t, d, 1, 0)
	mustStand(t, "behind a Write", d, 1, 6, false)
	must(t, "Flush", d.Flush(), api.OK)
	mustRead(t, d, 1, 0)
}

// P3.1: a Flush with nothing that waits is done, too; and what it let last stays.
func TestFlush(t *testing.T) {
	d := mustNew(t, 4)
	must(t, "Flush", d.Flush(), api.OK)
	mustStand(t, "behind a Flush of nothing", d, 0, 1, false)
	must(t, "Write", d.Write(0, full(1)), api.OK)
	must(t, "Write", d.Write(3, full(2)), api.OK)
	must(t, "Flush", d.Flush(), api.OK)
	must(t, "Flush", d.Flush(), api.OK)
	mustStand(t, "behind two Flushes", d, 0, 5, false)
	must(t, "Crash", d.Crash(nil), api.OK)
	mustStand(t, "behind a Crash", d, 0, 5, true)
	d = mustReopen(t, d)
	for i, c := range []byte{1, 0, 0, 2} {
		mustRead(t, d, i, c)
	}
}

// P3.1: Len, Waits, Done and Dead behind every kind of call.
func TestNumbersBehindEachCall(t *testing.T) {
	d := mustNew(t, 3)
	look := func(what string, err api.Errno, waits, done int, dead bool) {
		t.Helper()
		must(t, what, err, api.OK)
		mustStand(t, what, d, waits, done, dead)
		if d.Len() != 3 {
			t.Fatalf("%s: Len %d", what, d.Len())
		}
	}
	look("Write", d.Write(0, full(1)), 1, 1, false)
	look("Write", d.Write(0, full(1)), 2, 2, false)
	_, err := d.Read(0)
	look("Read", err, 2, 2, false)
	look("Flush", d.Flush(), 0, 3, false)
	look("Write", d.Write(2, full(1)), 1, 4, false)
	look("Fuse", d.Fuse(7, []bool{true}), 1, 4, false)
	d.Copy()
	look("Copy", api.OK, 1, 4, false)
	look("Crash", d.Crash([]bool{true}), 0, 4, true)
	dead := d
	d = mustReopen(t, d)
	look("Reopen", api.OK, 0, 0, false)
	d = dead
	look("the disk that it was made of", api.OK, 0, 4, true)
}

// P3.1, P3.2: a nil disk answers ErrNil, whatever it is handed, and zeros.
func TestNilDisk(t *testing.T) {
	var d *disk.Disk
	if d.Len() != 0 || d.Copy() != nil {
		t.Error("Len, or Copy")
	}
	mustStand(t, "a nil disk", d, 0, 0, false)
	for _, i := range append(far(0), 0) {
		mustNotRead(t, d, i, api.ErrNil)
		must(t, "Write", d.Write(i, full(1)), api.ErrNil)
		must(t, "Write of nothing", d.Write(i, nil), api.ErrNil)
		must(t, "Fuse", d.Fuse(i, nil), api.ErrNil)
	}
	must(t, "Flush", d.Flush(), api.ErrNil)
	must(t, "Crash", d.Crash([]bool{true}), api.ErrNil)
	if e, err := d.Reopen(); err != api.ErrNil || e != nil {
		t.Errorf("Reopen: a disk %v, %v", e != nil, err)
	}
}

// P3.1: what is refused is told as the table says, and counts nowhere.
func TestRefusedOfDiskThatLives(t *testing.T) {
	d := mustNew(t, 4)
	must(t, "Write", d.Write(2, full(6)), api.OK)
	for _, i := range far(4) {
		mustNotRead(t, d, i, api.ErrArg)
		must(t, "Write past the end", d.Write(i, full(5)), api.ErrArg)
		for _, b := range wrong() {
			must(t, "Write of wrong bytes past the end", d.Write(i, b), api.ErrArg)
		}
	}
	for i := range 4 {
		for _, b := range wrong() {
			must(t, "Write of wrong bytes", d.Write(i, b), api.ErrArg)
		}
	}
	for _, k := range []int{-1, -2, math.MinInt} {
		must(t, "Fuse", d.Fuse(k, []bool{true}), api.ErrArg)
	}
	if e, err := d.Reopen(); err != api.ErrState || e != nil {
		t.Errorf("Reopen: a disk %v, %v", e != nil, err)
	}
	mustStand(t, "behind refusals", d, 1, 1, false)
	for i, c := range []byte{0, 0, 6, 0} {
		mustRead(t, d, i, c)
	}
}

// P3.1, P3.2: a dead disk refuses all that the table says, ErrDead ahead of ErrArg.
func TestDeadDisk(t *testing.T) {
	d := mustNew(t, 4)
	must(t, "Write", d.Write(2, full(6)), api.OK)
	must(t, "Flush", d.Flush(), api.OK)
	must(t, "Crash", d.Crash(nil), api.OK)
	for _, i := range append(far(4), 0, 2, 3) {
		mustNotRead(t, d, i, api.ErrDead)
		must(t, "Write", d.Write(i, full(5)), api.ErrDead)
		for _, b := range wrong() {
			must(t, "Write of wrong bytes", d.Write(i, b), api.ErrDead)
		}
		must(t, "Fuse", d.Fuse(i, []bool{true}), api.ErrDead)
	}
	must(t, "Flush", d.Flush(), api.ErrDead)
	must(t, "Crash", d.Crash([]bool{true}), api.ErrDead)
	mustStand(t, "a dead disk", d, 0, 2, true)
	if d.Len() != 4 {
		t.Errorf("a dead disk: Len %d", d.Len())
	}
	mustRead(t, mustReopen(t, d), 2, 6)
}

// R3: what is handed to Write stays as it was, with the room behind its end, and is not kept.
func TestWrittenIsNotKept(t *testing.T) {
	d := mustNew(t, 2)
	room := append(full(1), full(2)...)
	was := slices.Clone(room)
	b := room[:api.SectorSize]
	must(t, "Write", d.Write(0, b), api.OK)
	must(t, "Write", d.Write(1, room), api.ErrArg)
	mustRead(t, d, 0, 1)
	must(t, "Flush", d.Flush(), api.OK)
	if !bytes.Equal(room, was) {
		t.Fatal("Write changed what it was handed")
	}
	must(t, "Write", d.Write(1, b), api.OK)
	for i := range room {
		room[i] = 9
	}
	mustRead(t, d, 0, 1)
	mustRead(t, d, 1, 1)
	must(t, "Crash", d.Crash([]bool{true}), api.OK)
	d = mustReopen(t, d)
	mustRead(t, d, 0, 1)
	mustRead(t, d, 1, 1)
}

// spoil writes over what a Read told, its spare room too.
func spoil(t *testing.T, d *disk.Disk, i int) {
	t.Helper()
	b, err := d.Read(i)
	must(t, "Read", err, api.OK)
	b = b[:cap(b)]
	for j := range b {
		b[j] ^= 0xA5
	}
}

// R3: what is read is new memory: of a sector never written, of one that waits, and of one
// that lasts; no other disk sees what is written there.
func TestReadIsNew(t *testing.T) {
	d := mustNew(t, 3)
	must(t, "Write", d.Write(1, full(1)), api.OK)
	must(t, "Flush", d.Flush(), api.OK)
	must(t, "Write", d.Write(2, full(2)), api.OK)
	c := d.Copy()
	for i := range 3 {
		spoil(t, d, i)
		spoil(t, c, i)
	}
	for i := range 3 {
		mustRead(t, d, i, byte(i))
		mustRead(t, c, i, byte(i))
		mustRead(t, mustNew(t, 3), i, 0)
	}
	must(t, "Crash", d.Crash([]bool{true}), api.OK)
	e := mustReopen(t, d)
	for i := range 3 {
		spoil(t, e, i)
		mustRead(t, e, i, byte(i))
		mustRead(t, c, i, byte(i))
		mustRead(t, mustReopen(t, d), i, byte(i))
	}
}

// R3: two Reads of one sector share no memory.
func TestTwoReads(t *testing.T) {
	d := mustNew(t, 1)
	for range 2 {
		one, _ := d.Read(0)
		two, _ := d.Read(0)
		was := slices.Clone(two)
		one[0] ^= 1
		one[api.SectorSize-1] ^= 1
		if !bytes.Equal(two, was) {
			t.Error("two Reads share memory")
		}
		must(t, "Write", d.Write(0, full(4)), api.OK)
	}
}

// R2: disks do not see one another.
func TestDisksAreApart(t *testing.T) {
	a, b := mustNew(t, 2), mustNew(t, 2)
	must(t, "Write", a.Write(0, full(1)), api.OK)
	must(t, "Flush", a.Flush(), api.OK)
	must(t, "Write", a.Write(1, full(2)), api.OK)
	must(t, "Fuse", a.Fuse(0, nil), api.OK)
	mustRead(t, b, 0, 0)
	mustRead(t, b, 1, 0)
	must(t, "Write", b.Write(1, full(3)), api.OK)
	mustStand(t, "the other disk", b, 1, 1, false)
	must(t, "Crash", b.Crash(nil), api.OK)
	mustStand(t, "the one disk", a, 1, 3, false)
	mustRead(t, a, 1, 2)
}

// R1: a disk that was not made by the package panics nowhere.
func TestDiskMadeOtherwise(t *testing.T) {
	for _, d := range []*disk.Disk{new(disk.Disk), new(disk.Disk).Copy()} {
		for _, i := range append(far(1), 0) {
			d.Read(i)
			d.Write(i, full(1))
		}
		d.Fuse(1, []bool{true})
		d.Flush()
		d.Crash([]bool{true})
		if e, err := d.Reopen(); err == api.OK {
			e.Write(0, full(1))
			e.Flush()
		}
	}
}

// R1: nor do two disks that were made one of the other by the language's own copying.
func TestDiskCopiedByItsValue(t *testing.T) {
	d := mustNew(t, 2)
	must(t, "Write", d.Write(0, full(1)), api.OK)
	e := *d
	for _, x := range []*disk.Disk{d, &e, d, &e} {
		for _, y := range []*disk.Disk{d, &e} {
			x.Write(1, full(2))
			y.Read(0)
			y.Read(1)
			y.Write(0, full(3))
			x.Flush()
			y.Read(0)
			y.Read(1)
			x.Copy().Crash([]bool{true, true})
		}
	}
}

package ring_test

import (
	"bytes"
	"encoding/binary"
	"fmt"
	"slices"
	"testing"

	"buttery/api"
	"buttery/disk"
	"buttery/ring"
)

// must asks that a call answered want.
func must(t *testing.T, what string, got, want api.Errno) {
	t.Helper()
	if got != want {
		t.Fatalf("%s: %v, want %v", what, got, want)
	}
}

// mustDisk is a new disk.
func mustDisk(t *testing.T, n int) *disk.Disk {
	t.Helper()
	d, err := disk.New(n)
	must(t, "disk.New", err, api.OK)
	return d
}

// mustReopen is a disk of what lasts on a dead one.
func mustReopen(t *testing.T, d *disk.Disk) *disk.Disk {
	t.Helper()
	e, err := d.Reopen()
	must(t, "disk.Reopen", err, api.OK)
	return e
}

// mustPut writes a sector.
func mustPut(t *testing.T, d *disk.Disk, i int, b []byte) {
	t.Helper()
	must(t, "disk.Write", d.Write(i, b), api.OK)
}

// mustOpen is a ring, and the records that are in it.
func mustOpen(t *testing.T, d *disk.Disk, first, count, base int) (*ring.Ring, [][]byte) {
	t.Helper()
	r, l, err := ring.Open(d, first, count, base)
	must(t, "Open", err, api.OK)
	if r == nil {
		t.Fatal("Open: OK, and no ring")
	}
	return r, l
}

// mustAppend appends a record.
func mustAppend(t *testing.T, r *ring.Ring, rec []byte) {
	t.Helper()
	must(t, "Append", r.Append(rec), api.OK)
}

// state is what a ring tells of itself.
type state struct{ base, last, top, room int }

func stateOf(r *ring.Ring) state { return state{r.Base(), r.Last(), r.Top(), r.Room()} }

// mustStand asks that a ring stands so.
func mustStand(t *testing.T, what string, r *ring.Ring, want state) {
	t.Helper()
	if got := stateOf(r); got != want {
		t.Fatalf("%s: Base, Last, Top, Room are %v, want %v", what, got, want)
	}
}

// mustTell asks that these records were told.
func mustTell(t *testing.T, what string, got, want [][]byte) {
	t.Helper()
	if !slices.EqualFunc(got, want, bytes.Equal) {
		t.Fatalf("%s: %s, want %s", what, short(got), short(want))
	}
}

// short tells of records how long they are, and how they begin.
func short(l [][]byte) string {
	s := fmt.Sprintf("%d records", len(l))
	for _, rec := range l {
		s += fmt.Sprintf(" [%d: % X ..]", len(rec), rec[:min(len(rec), 6)])
	}
	return s
}

// laid is a piece's sector, or what is like one, made by hand.
func laid(number uint64, last byte, size int, data []byte) []byte {
	b := make([]byte, api.SectorSize)
	binary.LittleEndian.PutUint64(b, number)
	b[8] = last
	binary.LittleEndian.PutUint16(b[9:], uint16(size))
	copy(b[11:], data)
	return b
}

// whole is the sector of a piece that is the last one of its record.
func whole(number int, data []byte) []byte { return laid(uint64(number), 1, len(data), data) }

// begun is the sector of a piece that is not the last one of its record.
func begun(number int, data []byte) []byte { return laid(uint64(number), 0, len(data), data) }

// mustLay writes pieces' sectors where a ring has them.
func mustLay(t *testing.T, d *disk.Disk, first, count int, pieces [][]byte) {
	t.Helper()
	for _, b := range pieces {
		mustPut(t, d, first+int(binary.LittleEndian.Uint64(b)%uint64(count)), b)
	}
}

// sectors are all sectors of a disk.
func sectors(t *testing.T, d *disk.Disk) [][]byte {
	t.Helper()
	l := make([][]byte, d.Len())
	for i := range l {
		b, err := d.Read(i)
		must(t, "disk.Read", err, api.OK)
		l[i] = b
	}
	return l
}

// text are n bytes that differ with seed; none of them is 0.
func text(n int, seed int) []byte {
	b := make([]byte, n)
	x := uint32(seed)*2654435761 + 12345
	for i := range b {
		x = x*1664525 + 1013904223
		b[i] = byte(x>>24) | 1
	}
	return b
}

// scribble writes into all that was handed out, the room behind its end too.
func scribble(b []byte) {
	b = b[:cap(b)]
	for i := range b {
		b[i] ^= 0x55
	}
}

// row are the numbers of a row that hangs on its beginning alone.
type row uint32

// next is a number from 0 on, below n.
func (r *row) next(n int) int {
	*r = *r*1664525 + 1013904223
	return int(*r>>8) % n
}

// keeps are n truth values.
func (r *row) keeps(n int) []bool {
	l := make([]bool, n)
	for i := range l {
		l[i] = r.next(2) == 1
	}
	return l
}

// allKeeps are all lists of n truth values.
func allKeeps(n int) [][]bool {
	l := [][]bool{{}}
	for range n {
		var more [][]bool
		for _, k := range l {
			more = append(more, append(slices.Clone(k), false), append(slices.Clone(k), true))
		}
		l = more
	}
	return l
}

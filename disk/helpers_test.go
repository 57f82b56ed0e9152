package disk_test

import (
	"bytes"
	"math"
	"slices"
	"testing"

	"buttery/api"
	"buttery/disk"
)

// full is a sector's bytes, all c.
func full(c byte) []byte { return bytes.Repeat([]byte{c}, api.SectorSize) }

// far are numbers that are no sector of a disk of n sectors.
func far(n int) []int {
	return []int{-1, -2, math.MinInt, n, n + 1, n + api.MaxSectors, math.MaxInt}
}

// wrong are bytes that are not as many as a sector has.
func wrong() [][]byte {
	return [][]byte{nil, {}, {1}, full(1)[:api.SectorSize-1], append(full(1), 1), append(full(1), full(1)...)}
}

// must asks that a call answered want.
func must(t *testing.T, what string, got, want api.Errno) {
	t.Helper()
	if got != want {
		t.Fatalf("%s: %v, want %v", what, got, want)
	}
}

// mustNew is a new disk.
func mustNew(t *testing.T, n int) *disk.Disk {
	t.Helper()
	d, err := disk.New(n)
	must(t, "New", err, api.OK)
	return d
}

// mustReopen is a disk of what lasts on a dead one.
func mustReopen(t *testing.T, d *disk.Disk) *disk.Disk {
	t.Helper()
	e, err := d.Reopen()
	must(t, "Reopen", err, api.OK)
	return e
}

// mustRead asks that a sector reads as bytes that are all c.
func mustRead(t *testing.T, d *disk.Disk, i int, c byte) {
	t.Helper()
	b, err := d.Read(i)
	if err != api.OK || !bytes.Equal(b, full(c)) {
		t.Fatalf("Read(%d): % X .., %d bytes, %v, want all %02X", i, b[:min(len(b), 4)], len(b), err, c)
	}
}

// mustNotRead asks that a Read is refused, and tells nothing.
func mustNotRead(t *testing.T, d *disk.Disk, i int, want api.Errno) {
	t.Helper()
	if b, err := d.Read(i); err != want || len(b) != 0 {
		t.Fatalf("Read(%d): %d bytes, %v, want %v", i, len(b), err, want)
	}
}

// mustStand asks how many writes wait, how many calls were done, and whether it is dead.
func mustStand(t *testing.T, what string, d *disk.Disk, waits, done int, dead bool) {
	t.Helper()
	if d.Waits() != waits || d.Done() != done || d.Dead() != dead {
		t.Fatalf("%s: Waits %d, Done %d, Dead %v, want %d, %d, %v", what, d.Waits(), d.Done(), d.Dead(), waits, done, dead)
	}
}

// row are the numbers of a row that hangs on its beginning alone.
type row uint32

// next is a number from 0 on, below n.
func (r *row) next(n int) int {
	*r = *r*1664525 + 1013904223
	return int(*r>>8) % n
}

// keeps are n truth values.
func (r *row) keeps(n int) []bool {
	l := make([]bool, n)
	for i := range l {
		l[i] = r.next(2) == 1
	}
	return l
}

// allKeeps are all lists of n truth values.
func allKeeps(n int) [][]bool {
	l := [][]bool{{}}
	for range n {
		var more [][]bool
		for _, k := range l {
			more = append(more, append(slices.Clone(k), false), append(slices.Clone(k), true))
		}
		l = more
	}
	return l
}

package pager_test

import (
	"bytes"
	"slices"
	"testing"

	"buttery/api"
	"buttery/disk"
	"buttery/pager"
)

// must asks that a call answered want.
func must(t *testing.T, what string, got, want api.Errno) {
	t.Helper()
	if got != want {
		t.Fatalf("%s: %v, want %v", what, got, want)
	}
}

// mustDisk is a new disk.
func mustDisk(t *testing.T, n int) *disk.Disk {
	t.Helper()
	d, err := disk.New(n)
	must(t, "disk.New", err, api.OK)
	return d
}

// mustReopen is a disk of what lasts on a dead one.
func mustReopen(t *testing.T, d *disk.Disk) *disk.Disk {
	t.Helper()
	e, err := d.Reopen()
	must(t, "disk.Reopen", err, api.OK)
	return e
}

// mustPut writes a sector, and flushes it.
func mustPut(t *testing.T, d *disk.Disk, i int, b []byte) {
	t.Helper()
	must(t, "disk.Write", d.Write(i, b), api.OK)
	must(t, "disk.Flush", d.Flush(), api.OK)
}

// mustGet reads a sector.
func mustGet(t *testing.T, d *disk.Disk, i int) []byte {
	t.Helper()
	b, err := d.Read(i)
	must(t, "disk.Read", err, api.OK)
	return b
}

// mustFormat is a new pager on a disk.
func mustFormat(t *testing.T, d *disk.Disk) *pager.Pager {
	t.Helper()
	p, err := pager.Format(d)
	must(t, "Format", err, api.OK)
	if p == nil {
		t.Fatal("Format: OK, and no pager")
	}
	return p
}

// mustNotFormat asks that Format is refused, and that nothing is written.
func mustNotFormat(t *testing.T, what string, d *disk.Disk, want api.Errno) {
	t.Helper()
	mustNotMake(t, what+": Format", d, pager.Format, want)
}

// mustOpen is the pager that a disk has.
func mustOpen(t *testing.T, d *disk.Disk) *pager.Pager {
	t.Helper()
	p, err := pager.Open(d)
	must(t, "Open", err, api.OK)
	if p == nil {
		t.Fatal("Open: OK, and no pager")
	}
	return p
}

// mustNotOpen asks that Open is refused, and that nothing is written.
func mustNotOpen(t *testing.T, what string, d *disk.Disk, want api.Errno) {
	t.Helper()
	mustNotMake(t, what+": Open", d, pager.Open, want)
}

// mustNotMake asks that a pager is refused, and that nothing is written.
func mustNotMake(t *testing.T, what string, d *disk.Disk, make func(*disk.Disk) (*pager.Pager, api.Errno), want api.Errno) {
	t.Helper()
	waits, done := d.Waits(), d.Done()
	if p, err := make(d); err != want || p != nil {
		t.Fatalf("%s: a pager %v, %v, want %v", what, p != nil, err, want)
	}
	if d.Waits() != waits || d.Done() != done {
		t.Fatalf("%s: Waits %d, Done %d, want %d, %d", what, d.Waits(), d.Done(), waits, done)
	}
}

// mustAlloc takes a page.
func mustAlloc(t *testing.T, p *pager.Pager) int {
	t.Helper()
	n, err := p.Alloc()
	must(t, "Alloc", err, api.OK)
	return n
}

// mustTake takes a page that reads as b.
func mustTake(t *testing.T, p *pager.Pager, b []byte) int {
	t.Helper()
	n := mustAlloc(t, p)
	must(t, "Write", p.Write(n, b), api.OK)
	return n
}

// mustRead asks that a page reads so.
func mustRead(t *testing.T, what string, p *pager.Pager, n int, want []byte) {
	t.Helper()
	if b, err := p.Read(n); err != api.OK || !bytes.Equal(b, want) {
		t.Fatalf("%s: Read(%d): %d bytes, % X .., %v, want % X ..", what, n, len(b), b[:min(len(b), 8)], err, want[:min(len(want), 8)])
	}
}

// mustNotRead asks that a Read is refused, and tells nothing.
func mustNotRead(t *testing.T, what string, p *pager.Pager, n int, want api.Errno) {
	t.Helper()
	if b, err := p.Read(n); err != want || len(b) != 0 {
		t.Fatalf("%s: Read(%d): %d bytes, %v, want %v", what, n, len(b), err, want)
	}
}

// stands is what a pager tells of itself.
type stands struct{ pages, free, root int }

// mustStand asks that a pager stands so.
func mustStand(t *testing.T, what string, p *pager.Pager, want stands) {
	t.Helper()
	if got := (stands{p.Pages(), p.Free(), p.Root()}); got != want {
		t.Fatalf("%s: Pages, Free, Root are %v, want %v", what, got, want)
	}
}

// full are a page's bytes, all c.
func full(c byte) []byte { return bytes.Repeat([]byte{c}, api.SectorSize) }

// text are a page's bytes, which differ with seed; none of them is 0.
func text(seed int) []byte {
	b := make([]byte, api.SectorSize)
	x := uint32(seed)*2654435761 + 12345
	for i := range b {
		x = x*1664525 + 1013904223
		b[i] = byte(x>>24) | 1
	}
	return b
}

// row are the numbers of a row that hangs on its beginning alone.
type row uint32

// next is a number from 0 on, below n.
func (r *row) next(n int) int {
	*r = *r*1664525 + 1013904223
	return int(*r>>8) % n
}

// keeps are n truth values.
func (r *row) keeps(n int) []bool {
	l := make([]bool, n)
	for i := range l {
		l[i] = r.next(2) == 1
	}
	return l
}

// allKeeps are all lists of n truth values.
func allKeeps(n int) [][]bool {
	l := [][]bool{{}}
	for range n {
		var more [][]bool
		for _, k := range l {
			more = append(more, append(slices.Clone(k), false), append(slices.Clone(k), true))
		}
		l = more
	}
	return l
}

// manyKeeps are lists of n truth values of every kind: all there are, if n is small; else all
// rows of the first ones, with the others false, and true; one alone true, and false; and
// some drawn ones.
func manyKeeps(n int) [][]bool {
	const first = 3
	if n <= first+1 {
		return allKeeps(n)
	}
	var l [][]bool
	for _, rest := range []bool{false, true} {
		for _, k := range allKeeps(first) {
			l = append(l, append(k, slices.Repeat([]bool{rest}, n-first)...))
		}
		for i := first; i < n; i++ {
			k := slices.Repeat([]bool{rest}, n)
			k[i] = !rest
			l = append(l, k)
		}
	}
	x := row(n)
	for range 6 {
		l = append(l, x.keeps(n))
	}
	return l
}

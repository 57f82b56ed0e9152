package pager_test

import (
	"bytes"
	"fmt"
	"testing"

	"buttery/api"
	"buttery/pager"
)

// P5.2: Alloc gives each page but 0, each once, till none is free; what was dropped is given
// again.
func TestAllocTillFull(t *testing.T) {
	for _, sectors := range []int{64, 67, 400} {
		p := mustFormat(t, mustDisk(t, sectors))
		pages := sectors - 1 - sectors/4
		seen := map[int]bool{}
		for free := pages - 1; free > 0; free-- {
			mustStand(t, "Alloc", p, stands{pages, free, 0})
			n := mustAlloc(t, p)
			if n < 1 || n >= pages || seen[n] {
				t.Fatalf("Alloc: %d, of %d pages, of which %d are in use", n, pages, len(seen))
			}
			seen[n] = true
			if b, err := p.Read(n); err != api.OK || len(b) != api.SectorSize {
				t.Fatalf("Read(%d), behind Alloc: %d bytes, %v", n, len(b), err)
			}
		}
		for range 2 {
			if n, err := p.Alloc(); n != 0 || err != api.ErrFull {
				t.Fatalf("Alloc of none: %d, %v", n, err)
			}
			mustStand(t, "all in use", p, stands{pages, 0, 0})
		}
		dropped := map[int]bool{5: true, 6: true, 1: true, pages - 1: true}
		for n := range dropped {
			must(t, "Drop", p.Drop(n), api.OK)
			mustNotRead(t, "Drop", p, n, api.ErrArg)
		}
		mustStand(t, "some dropped", p, stands{pages, 4, 0})
		for range 4 {
			n := mustAlloc(t, p)
			if !dropped[n] {
				t.Fatalf("Alloc: %d, that is in use", n)
			}
			delete(dropped, n)
		}
		_, err := p.Alloc()
		must(t, "Alloc of none", err, api.ErrFull)
	}
}

// P5.2: the pages of a disk that has none free, over many commits, and opened again.
func TestAllPagesInUse(t *testing.T) {
	const sectors, pages = 64, 47
	p := begin(t, sectors)
	for p.m.free() > 0 {
		for range 8 {
			p.do(t, call{kind: anAlloc})
		}
		p.do(t, call{kind: aCommit})
	}
	p.do(t, call{kind: anOpen})
	for n := 1; n < pages; n++ {
		p.do(t, call{aWrite, n, n})
		if n%8 == 0 {
			p.do(t, call{kind: aCommit})
		}
	}
	p.do(t, call{kind: aCommit})
	p.do(t, call{kind: anOpen})
	p.do(t, call{kind: anAlloc})
	for n := 1; n < pages; n++ {
		p.do(t, call{aDrop, n, 0})
		if n%8 == 0 {
			p.do(t, call{kind: aCommit})
		}
	}
	p.do(t, call{kind: aCommit})
	p.do(t, call{kind: anOpen})
	mustStand(t, "all dropped", p.p, stands{pages, pages - 1, 0})
}

// mustRefusePage asks that all calls with a page that is not in use are refused, and that
// nothing is another one then.
func mustRefusePage(t *testing.T, p *pager.Pager, n int, want api.Errno) {
	t.Helper()
	what := fmt.Sprint("the page ", n)
	was := stands{p.Pages(), p.Free(), p.Root()}
	mustNotRead(t, what, p, n, want)
	for _, b := range [][]byte{full(1), nil, {}, full(1)[1:], append(full(1), 1)} {
		must(t, fmt.Sprint(what, ": Write of ", len(b)), p.Write(n, b), want)
	}
	must(t, what+": Drop", p.Drop(n), want)
	mustStand(t, what, p, was)
}

// P5.2: Read, Write and Drop of pages that are not in use: free ones that never were, that
// were dropped in the change, that were dropped ahead of it; the page 0, and far numbers.
func TestPagesNotInUse(t *testing.T) {
	p := mustFormat(t, mustDisk(t, 64))
	a, b, c := mustTake(t, p, text(1)), mustTake(t, p, text(2)), mustTake(t, p, text(3))
	must(t, "Drop", p.Drop(a), api.OK)
	must(t, "Commit", p.Commit(), api.OK)
	must(t, "Drop", p.Drop(b), api.OK)
	refused := append(far(47), a, b, 46, 4)
	for _, n := range refused {
		mustRefusePage(t, p, n, api.ErrArg)
	}
	mustRead(t, "one in use", p, c, text(3))
	must(t, "Settle", p.Settle(), api.OK)
	for _, n := range refused {
		mustRefusePage(t, p, n, api.ErrArg)
	}
	must(t, "Abort", p.Abort(), api.OK)
	mustRead(t, "in use again", p, b, text(2))
	mustRefusePage(t, p, a, api.ErrArg)
}

// P5.2: Write of too few and of too many bytes leaves the page as it was.
func TestWriteOfWrongLengths(t *testing.T) {
	p := mustFormat(t, mustDisk(t, 64))
	a := mustTake(t, p, text(1))
	for range 2 {
		for _, b := range [][]byte{nil, {}, {1}, full(1)[1:], append(full(1), 1), append(full(1), full(1)...)} {
			must(t, fmt.Sprint("Write of ", len(b)), p.Write(a, b), api.ErrArg)
			mustRead(t, "Write that is refused", p, a, text(1))
		}
		must(t, "Commit", p.Commit(), api.OK)
	}
}

// P5.2: pages of all kinds of bytes read as they were written: in the change, in the log,
// in their places, and opened again.
func TestAllKindsOfBytes(t *testing.T) {
	front, back := full(0), full(0)
	front[0], back[api.SectorSize-1] = 1, 1
	kinds := [][]byte{full(0), full(0xFF), full(1), front, back, text(5), append(make([]byte, 256), text(6)[:256]...)}
	d := mustDisk(t, 64)
	p := mustFormat(t, d)
	pages := map[int][]byte{}
	for _, b := range kinds {
		pages[mustTake(t, p, b)] = b
	}
	ask := func(what string, p *pager.Pager) {
		for n, b := range pages {
			mustRead(t, what, p, n, b)
		}
	}
	ask("in the change", p)
	must(t, "Commit", p.Commit(), api.OK)
	ask("in the log", p)
	ask("in the log, opened", mustOpen(t, d))
	must(t, "Settle", p.Settle(), api.OK)
	ask("in their places", p)
	ask("in their places, opened", mustOpen(t, d))
}

// R3: what is handed in stays as it was, and may be written over then; what is read is new
// memory, its spare room too.
func TestHandedInAndOut(t *testing.T) {
	d := mustDisk(t, 64)
	p := mustFormat(t, d)
	a := mustAlloc(t, p)
	room := append(text(1), text(2)...)
	must(t, "Write", p.Write(a, room[:api.SectorSize]), api.OK)
	if !bytes.Equal(room, append(text(1), text(2)...)) {
		t.Error("Write changed what it was handed")
	}
	copy(room, text(3))
	scribbleOn := func(what string) {
		t.Helper()
		for range 2 {
			b, err := p.Read(a)
			must(t, "Read", err, api.OK)
			b = b[:cap(b)]
			mustRead(t, what, p, a, text(1))
			for i := range b {
				b[i] ^= 0x55
			}
			mustRead(t, what+", written over", p, a, text(1))
		}
	}
	scribbleOn("in the change")
	must(t, "Commit", p.Commit(), api.OK)
	scribbleOn("in the log")
	must(t, "Settle", p.Settle(), api.OK)
	scribbleOn("in its place")
	p = mustOpen(t, d)
	scribbleOn("opened")
}

// P5.2, P5.3: a dead disk: what is refused ahead of it, what it answers, and that nothing is
// another one but by Abort.
func TestDeadDisk(t *testing.T) {
	for _, settled := range []bool{false, true} {
		d := mustDisk(t, 64)
		p := mustFormat(t, d)
		a := mustTake(t, p, text(1))
		must(t, "Commit", p.Commit(), api.OK)
		b := mustTake(t, p, text(2))
		if settled {
			must(t, "Settle", p.Settle(), api.OK)
		}
		must(t, "SetRoot", p.SetRoot(b), api.OK)
		must(t, "disk.Crash", d.Crash(nil), api.OK)
		for _, n := range []int{a, b} {
			mustNotRead(t, "dead", p, n, api.ErrDead)
			must(t, "Write", p.Write(n, full(1)), api.ErrDead)
			must(t, "Write of too few", p.Write(n, nil), api.ErrArg)
			must(t, "Drop", p.Drop(n), api.ErrDead)
		}
		mustRefusePage(t, p, 0, api.ErrArg)
		mustRefusePage(t, p, b+1, api.ErrArg)
		if n, err := p.Alloc(); n != 0 || err != api.ErrDead {
			t.Errorf("Alloc: %d, %v", n, err)
		}
		must(t, "Commit", p.Commit(), api.ErrDead)
		must(t, "Settle", p.Settle(), api.ErrDead)
		mustStand(t, "dead", p, stands{47, 44, b})
		must(t, "SetRoot", p.SetRoot(b+1), api.ErrArg)
		must(t, "SetRoot", p.SetRoot(a), api.OK)
		mustStand(t, "dead, SetRoot", p, stands{47, 44, a})
		must(t, "Abort", p.Abort(), api.OK)
		mustStand(t, "dead, Abort", p, stands{47, 45, 0})
		must(t, "Commit of none", p.Commit(), api.ErrDead)
		must(t, "Settle", p.Settle(), api.ErrDead)
		mustRefusePage(t, p, b, api.ErrArg)
	}
}

// P5.2, P5.3: of a dead disk, and ErrFull or ErrArg, these are named first.
func TestDeadDiskIsNamedLast(t *testing.T) {
	d := mustDisk(t, 64)
	p := mustFormat(t, d)
	for range 46 {
		mustAlloc(t, p)
	}
	must(t, "disk.Crash", d.Crash(nil), api.OK)
	_, err := p.Alloc()
	must(t, "Alloc of none", err, api.ErrFull)
	must(t, "Commit of too much", p.Commit(), api.ErrFull)
	d = mustDisk(t, 64)
	p = mustFormat(t, d)
	a := mustAlloc(t, p)
	must(t, "SetRoot", p.SetRoot(a), api.OK)
	must(t, "Drop", p.Drop(a), api.OK)
	must(t, "disk.Crash", d.Crash(nil), api.OK)
	must(t, "Commit of such a root", p.Commit(), api.ErrArg)
}

package pager_test

import (
	"fmt"
	"testing"

	"buttery/api"
	"buttery/disk"
	"buttery/pager"
	"buttery/ring"
	"buttery/seal"
)

// P5.1: Format of disks of all kinds of sizes: how many pages there are, all free, and that
// it is there to open.
func TestFormat(t *testing.T) {
	for n, pages := range map[int]int{
		64: 47, 65: 48, 66: 49, 67: 50, 68: 50, 100: 74, 127: 95, 128: 95,
		400: 299, 2000: 1499, api.MaxSectors - 1: 49151, api.MaxSectors: 49151,
	} {
		d := mustDisk(t, n)
		want := stands{pages, pages - 1, 0}
		mustStand(t, "Format", mustFormat(t, d), want)
		must(t, "disk.Crash", d.Crash(nil), api.OK)
		mustStand(t, "Open", mustOpen(t, mustReopen(t, d)), want)
	}
}

// P5.1: Format of disks that are too small, of none, and of dead ones; of two errors the
// one that is named first.
func TestFormatRefuses(t *testing.T) {
	for _, n := range []int{1, 2, 3, 4, 5, 31, 32, 62, 63} {
		d := mustDisk(t, n)
		mustNotFormat(t, fmt.Sprint(n, " sectors"), d, api.ErrArg)
		mustNotOpen(t, fmt.Sprint(n, " sectors"), d, api.ErrForm)
		must(t, "disk.Crash", d.Crash(nil), api.OK)
		mustNotFormat(t, fmt.Sprint(n, " sectors, dead"), d, api.ErrArg)
		mustNotOpen(t, fmt.Sprint(n, " sectors, dead"), d, api.ErrDead)
	}
	mustNotFormat(t, "no disk", nil, api.ErrNil)
	mustNotOpen(t, "no disk", nil, api.ErrNil)
	d := mustDisk(t, 64)
	mustFormat(t, d)
	must(t, "disk.Crash", d.Crash(nil), api.OK)
	mustNotFormat(t, "a dead disk", d, api.ErrDead)
	mustNotOpen(t, "a dead disk", d, api.ErrDead)
}

// P5.1: what Open does not take: new disks, and disks whose head was written over by all
// kinds of things.
func TestOpenRefuses(t *testing.T) {
	mustNotOpen(t, "a new disk", mustDisk(t, 64), api.ErrForm)
	d := mustDisk(t, 64)
	p := mustFormat(t, d)
	mustTake(t, p, text(1))
	must(t, "Commit", p.Commit(), api.OK)
	head := mustGet(t, d, 0)
	other := mustDisk(t, 65)
	mustFormat(t, other)
	kind, body, err := seal.Open(head)
	must(t, "the head: seal.Open", err, api.OK)
	sealed := func(kind uint8, body []byte) []byte {
		b, _ := seal.Seal(kind, body)
		return append(b, make([]byte, api.SectorSize)...)[:api.SectorSize]
	}
	for what, b := range map[string][]byte{
		"0s":                      full(0),
		"1s":                      full(1),
		"all ones":                full(0xFF),
		"a text":                  text(3),
		"a page":                  mustGet(t, d, 63),
		"a piece of the ring":     mustGet(t, d, 2),
		"the head of another one": mustGet(t, other, 0),
		"half a head":             append(head[:256:256], make([]byte, 256)...),
		"another kind":            sealed(kind+1, body),
		"fewer bytes":             sealed(kind, body[:len(body)-1]),
		"something behind":        sealed(kind, append(body[:len(body)-1:len(body)-1], 1)),
	} {
		mustPut(t, d, 0, b)
		mustNotOpen(t, what, d, api.ErrForm)
	}
	for i := range 8 * api.SectorSize {
		b := append([]byte{}, head...)
		b[i/8] ^= 1 << (i % 8)
		must(t, "disk.Write", d.Write(0, b), api.OK)
		mustNotOpen(t, fmt.Sprint("the bit ", i), d, api.ErrForm)
	}
	mustPut(t, d, 0, head)
	mustStand(t, "the head that was there", mustOpen(t, d), stands{47, 45, 0})
}

// P5.1: Open behind each kind of Commit tells what was committed, and nothing of a change
// that was not; it writes nothing by then, so that the pager that was there goes on.
func TestOpenBehindCommits(t *testing.T) {
	p := begin(t, 64)
	for _, calls := range [][]call{
		{},
		{{kind: anAlloc}},
		{{anAlloc, 0, 0}, {aWrite, 1, 7}},
		{{aWrite, 2, 8}, {aRoot, 2, 0}},
		{{aRoot, 1, 0}},
		{{aDrop, 2, 0}},
		{{aRoot, 0, 0}},
		{{aDrop, 1, 0}, {anAlloc, 0, 0}},
		{{anAlloc, 0, 0}, {anAlloc, 0, 0}, {aDrop, 2, 0}},
		{{kind: aSettle}},
		{{aWrite, 1, 9}, {kind: anAbort}},
	} {
		for _, x := range calls {
			p.do(t, x)
			q := p.again(t)
			done := q.d.Done()
			mustAgree(t, q.told+"Open ahead of Commit", q.p, q.m)
			if q.d.Done() != done {
				t.Fatalf("%s: Open wrote", q.told)
			}
		}
		p.do(t, call{kind: aCommit})
		q := p.again(t)
		mustAgree(t, q.told+"Open behind Commit", q.p, p.m)
	}
}

// P5.1: Format of a disk that has a pager: nothing of what was there comes back, whatever
// is done then, though it was not settled.
func TestFormatAgain(t *testing.T) {
	for seed := range 60 {
		r := row(seed)
		p := begin(t, 64+seed%9)
		for range 5 {
			for range r.next(60) {
				p.do(t, r.anyCall(p.m))
			}
			p.p, p.m = mustFormat(t, p.d), newMind(p.d.Len())
			p.told += "Format; "
			mustAgree(t, p.told, p.p, p.m)
			p.do(t, call{kind: anOpen})
		}
	}
}

// P5.1: Format of a disk on whose sectors anything lies: what looks like pieces of a ring
// does not come back, and leaves room for any number of commits.
func TestFormatOfAnything(t *testing.T) {
	for _, base := range []int{0, 1, 1 << 40, ring.MaxNumber/2 - 2, ring.MaxNumber / 2, ring.MaxNumber - 3} {
		d := mustDisk(t, 64)
		for i := range 64 {
			mustPut(t, d, i, text(i))
		}
		r, _, err := ring.Open(d, 1, 16, base)
		must(t, "ring.Open", err, api.OK)
		for i := range 3 {
			must(t, "ring.Append", r.Append(text(i)[:100]), api.OK)
		}
		must(t, "ring.Sync", r.Sync(), api.OK)
		p := &played{d: d, p: mustFormat(t, d), m: newMind(64), told: fmt.Sprint("base ", base, ": ")}
		mustAgree(t, p.told, p.p, p.m)
		x := row(base)
		for range 120 {
			p.do(t, x.anyCall(p.m))
		}
	}
}

// P5.1: SetRoot of what may be the root, and of what may not.
func TestSetRoot(t *testing.T) {
	d := mustDisk(t, 64)
	p := mustFormat(t, d)
	a, b, c := mustAlloc(t, p), mustAlloc(t, p), mustAlloc(t, p)
	must(t, "Drop", p.Drop(b), api.OK)
	for _, n := range []int{a, 0, c, c, a, 0, 0, a} {
		must(t, "SetRoot", p.SetRoot(n), api.OK)
		mustStand(t, "SetRoot", p, stands{47, 44, n})
	}
	must(t, "Commit", p.Commit(), api.OK)
	refused := append(far(47)[1:], b, 46)
	for _, n := range refused {
		must(t, fmt.Sprint("SetRoot ", n), p.SetRoot(n), api.ErrArg)
		mustStand(t, "SetRoot that is refused", p, stands{47, 44, a})
	}
	mustStand(t, "Open", mustOpen(t, d), stands{47, 44, a})
	must(t, "SetRoot", p.SetRoot(c), api.OK)
	must(t, "Drop of the root", p.Drop(c), api.OK)
	mustStand(t, "Drop of the root", p, stands{47, 45, c})
	must(t, "SetRoot of what was dropped", p.SetRoot(c), api.ErrArg)
	must(t, "Abort", p.Abort(), api.OK)
	mustStand(t, "Abort", p, stands{47, 44, a})
}

// P5.1, P5.2, P5.3: nobody's pager.
func TestNobodysPager(t *testing.T) {
	var p *pager.Pager
	mustStand(t, "nobody's", p, stands{})
	for _, n := range []int{0, 1, -1} {
		must(t, "SetRoot", p.SetRoot(n), api.ErrNil)
		mustNotRead(t, "nobody's", p, n, api.ErrNil)
		must(t, "Write", p.Write(n, full(1)), api.ErrNil)
		must(t, "Write", p.Write(n, nil), api.ErrNil)
		must(t, "Drop", p.Drop(n), api.ErrNil)
	}
	if n, err := p.Alloc(); n != 0 || err != api.ErrNil {
		t.Errorf("Alloc: %d, %v", n, err)
	}
	must(t, "Commit", p.Commit(), api.ErrNil)
	must(t, "Abort", p.Abort(), api.ErrNil)
	must(t, "Settle", p.Settle(), api.ErrNil)
}

// R1: pagers that did not come out of this package's calls do not panic.
func TestPagersOfNoCall(t *testing.T) {
	try := func(p *pager.Pager) {
		useAll(p)
		q := *p
		for range 3 {
			useAll(p)
			useAll(&q)
		}
	}
	try(&pager.Pager{})
	d := mustDisk(t, 64)
	try(mustFormat(t, d))
	if p, err := pager.Format(&disk.Disk{}); p != nil || err == api.OK {
		t.Errorf("Format of a disk that is none: %v", err)
	}
	if p, err := pager.Open(&disk.Disk{}); p != nil || err == api.OK {
		t.Errorf("Open of a disk that is none: %v", err)
	}
}

// useAll does all that can be done with a pager.
func useAll(p *pager.Pager) {
	for n := -1; n <= p.Pages()+1; n++ {
		p.Read(n)
		p.Write(n, full(byte(n)))
		if n%3 == 0 {
			p.Drop(n)
		}
		if n%5 == 0 {
			p.SetRoot(n)
		}
		if n%7 == 0 {
			p.Alloc()
			p.Alloc()
		}
		if n%11 == 0 {
			p.Commit()
		}
		if n%17 == 0 {
			p.Settle()
		}
		if n%29 == 0 {
			p.Abort()
		}
	}
	p.Free()
	p.SetRoot(0)
	p.Commit()
	p.Abort()
}

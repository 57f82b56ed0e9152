package pager_test

import (
	"fmt"
	"slices"
	"testing"

	"buttery/api"
	"buttery/code"
	"buttery/disk"
	"buttery/pager"
	"buttery/ring"
	"buttery/seal"
)

// mustEnd opens a disk on which anything lies; if that is not refused, it does all kinds of
// calls, and opens it again. It tells whether it was not refused.
func mustEnd(t *testing.T, what string, d *disk.Disk, x *row) bool {
	t.Helper()
	p, err := pager.Open(d)
	if err != api.OK {
		if err != api.ErrForm || p != nil {
			t.Fatalf("%s: Open: a pager %v, %v", what, p != nil, err)
		}
		return false
	}
	v := viewOf(t, what, p)
	m := &mind{d.Len(), v.copy(), v.copy(), map[int]bool{}}
	if p.Pages() != m.pages() || !m.mayBeRoot(v.root) {
		t.Fatalf("%s: Pages %d, %s", what, p.Pages(), v.short())
	}
	q := &played{d: d, p: p, m: m, told: what + ": "}
	for range 30 {
		q.do(t, x.anyCall(m))
	}
	for range m.pages() {
		q.quick(t, call{kind: anAlloc})
	}
	for _, kind := range []int{anAbort, aSettle, anOpen} {
		q.do(t, call{kind: kind})
	}
	return true
}

// lived is a disk whose pager has done all kinds of calls, and perhaps crashed.
func lived(t *testing.T, x *row) *disk.Disk {
	t.Helper()
	p := begin(t, 64+x.next(9))
	for range x.next(120) {
		p.quick(t, x.anyCall(p.m))
	}
	if x.next(3) == 0 {
		must(t, "disk.Fuse", p.d.Fuse(x.next(5), x.keeps(x.next(8))), api.OK)
		p.p.Abort()
		if n, err := p.p.Alloc(); err == api.OK {
			p.p.Write(n, text(1))
		}
		p.p.Commit()
		p.p.Settle()
		if p.d.Dead() {
			return mustReopen(t, p.d)
		}
		return p.d.Copy()
	}
	return p.d
}

// base is what a disk's head says of the ring.
func base(t *testing.T, d *disk.Disk) int {
	t.Helper()
	_, body, err := seal.Open(mustGet(t, d, 0))
	must(t, "the head: seal.Open", err, api.OK)
	r := code.NewReader(body)
	r.Count(api.MaxSectors)
	return int(r.Num())
}

// anyBytes are some bytes, of all kinds.
func (r *row) anyBytes(n int) []byte {
	b := make([]byte, n)
	for i := range b {
		switch r.next(4) {
		case 0:
			b[i] = byte(r.next(4))
		case 1:
			b[i] = byte(r.next(64))
		case 2:
			b[i] = byte(r.next(256))
		}
	}
	return b
}

// turn turns some bytes, or cuts them.
func (r *row) turn(b []byte) []byte {
	b = slices.Clone(b)
	for range r.next(3) + 1 {
		if len(b) == 0 {
			break
		}
		switch at := r.next(min(len(b), []int{8, 32, 4096}[r.next(3)])); r.next(4) {
		case 0:
			b[at] = byte(r.next(256))
		case 1:
			b[at] ^= 1 << r.next(8)
		case 2:
			b[at]++
		default:
			b = append(b[:at], b[at+r.next(2):]...)
		}
	}
	return b
}

// spoilSectors writes anything over some sectors, but for the head.
func spoilSectors(t *testing.T, d *disk.Disk, x *row) {
	t.Helper()
	for range x.next(20) + 1 {
		at := 1 + x.next(d.Len()-1)
		switch x.next(4) {
		case 0:
			mustPut(t, d, at, x.anyBytes(api.SectorSize))
		case 1:
			mustPut(t, d, at, mustGet(t, d, x.next(d.Len())))
		case 2:
			mustPut(t, d, at, append(code.Count(nil, x.next(70)), make([]byte, api.SectorSize)...)[:api.SectorSize])
		default:
			b := mustGet(t, d, at)
			b[x.next(20)] ^= 1 << x.next(8)
			mustPut(t, d, at, b)
		}
	}
}

// spoilRecords lets the ring have other records than it had: the same with some bytes
// turned, and anything.
func spoilRecords(t *testing.T, d *disk.Disk, x *row) {
	t.Helper()
	from := base(t, d)
	_, records, err := ring.Open(d, 1, d.Len()/4, from)
	must(t, "ring.Open", err, api.OK)
	for i := range d.Len() / 4 {
		mustPut(t, d, 1+i, full(0))
	}
	r, _, err := ring.Open(d, 1, d.Len()/4, from)
	must(t, "ring.Open", err, api.OK)
	for _, rec := range records {
		switch x.next(6) {
		case 0:
			r.Append(x.anyBytes(x.next(60)))
		case 1, 2:
			r.Append(x.turn(rec))
		default:
			r.Append(rec)
		}
	}
	for range x.next(4) {
		r.Append(anyRecord(x))
	}
	must(t, "ring.Sync", r.Sync(), api.OK)
}

// anyRecord is a record of the log, with any numbers.
func anyRecord(x *row) []byte {
	b := code.Count(nil, x.next(50))
	b = code.Count(b, x.next(4))
	b = code.Count(b, x.next(6))
	n := x.next(5)
	b = code.Count(b, n)
	for range n {
		b = code.Count(b, x.next(12))
		b = code.Str(b, string(code.Count(nil, x.next(12))))
	}
	return b
}

// record is of the form of a record of the log: how all stands, and pages with their bytes.
func record(mark, root, top int, pages ...int) []byte {
	b := code.Count(code.Count(code.Count(nil, mark), root), top)
	b = code.Count(b, len(pages))
	for _, n := range pages {
		b = code.Str(code.Count(b, n), "ab")
	}
	return b
}

// R1: a log with a record that is none is refused, with others ahead of it and behind it.
func TestRecordsThatAreNone(t *testing.T) {
	good := record(4, 3, 0, 1, 2, 3)
	for what, x := range map[string]struct {
		rec  []byte
		want api.Errno
	}{
		"a good one":        {good, api.OK},
		"without pages":     {record(9, 8, 0), api.OK},
		"all pages":         {record(47, 46, 0, 46, 1), api.OK},
		"nothing":           {nil, api.ErrForm},
		"its beginning":     {good[:len(good)-1], api.ErrForm},
		"something behind":  {append(good[:len(good):len(good)], 0), api.ErrForm},
		"no mark":           {record(0, 0, 0), api.ErrForm},
		"too many pages":    {record(48, 0, 0), api.ErrForm},
		"a root at mark":    {record(4, 4, 0), api.ErrForm},
		"a list at mark":    {record(4, 0, 4), api.ErrForm},
		"the page 0":        {record(4, 3, 0, 1, 0, 3), api.ErrForm},
		"the page at mark":  {record(4, 3, 0, 1, 4), api.ErrForm},
		"more than there":   {append(record(4, 3, 0)[:3], 4), api.ErrForm},
		"too long a page":   {code.Str(append(record(4, 3, 0)[:3], 1, 2), string(text(1))+"a"), api.ErrForm},
		"a list in no page": {record(4, 3, 1, 1), api.ErrForm},
	} {
		for at := range 3 {
			l := [][]byte{good, good, good}
			l[at] = x.rec
			want := x.want
			if what == "a list in no page" && at < 2 {
				want = api.OK // what comes behind it mends that
			}
			p, err := pager.Open(diskOf(t, l))
			must(t, what, err, want)
			if (p != nil) != (err == api.OK) {
				t.Errorf("%s: a pager %v, %v", what, p != nil, err)
			}
		}
	}
}

// diskOf is a disk whose pager finds these records in its log.
func diskOf(t *testing.T, records [][]byte) *disk.Disk {
	t.Helper()
	d := mustDisk(t, 64)
	mustFormat(t, d)
	r, _, err := ring.Open(d, 1, 16, base(t, d))
	must(t, "ring.Open", err, api.OK)
	for _, rec := range records {
		must(t, "ring.Append", r.Append(rec), api.OK)
	}
	must(t, "ring.Sync", r.Sync(), api.OK)
	return d
}

// spoilTop lets a piece of any number stand in the ring.
func spoilTop(t *testing.T, d *disk.Disk, x *row) {
	t.Helper()
	from := []int{0, 40, 1 << 40, ring.MaxNumber / 2, ring.MaxNumber - 2}[x.next(5)] + x.next(2)
	r, _, err := ring.Open(d, 1, d.Len()/4, from)
	must(t, "ring.Open", err, api.OK)
	r.Empty()
	r.Append(x.anyBytes(x.next(600)))
	must(t, "ring.Sync", r.Sync(), api.OK)
}

// spoilHead lets the head be of its form, but with any numbers.
func spoilHead(t *testing.T, d *disk.Disk, x *row) {
	t.Helper()
	kind, body, err := seal.Open(mustGet(t, d, 0))
	must(t, "the head: seal.Open", err, api.OK)
	was := len(body)
	if x.next(2) == 0 {
		from := int64([]int{0, -1, x.next(60), ring.MaxNumber / 2, ring.MaxNumber, ring.MaxNumber + 1}[x.next(6)])
		body = code.Num(code.Count(nil, d.Len()), from)
		for range 3 {
			body = code.Count(body, x.next(60))
		}
	} else {
		body = x.turn(body)
	}
	frame, err := seal.Seal(kind, append(body, make([]byte, was)...)[:was])
	must(t, "the head: seal.Seal", err, api.OK)
	mustPut(t, d, 0, frame)
}

// R1: whatever lies on a disk, all calls come to an end, answer what the chapter lists, and
// what is found goes on as in mind.
func TestAnythingOnADisk(t *testing.T) {
	t.Parallel()
	spoil := []func(*testing.T, *disk.Disk, *row){spoilSectors, spoilRecords, spoilTop, spoilHead}
	ended := make([][2]int, len(spoil))
	for seed := range 2000 {
		x := row(seed)
		d := lived(t, &x)
		at := seed % len(spoil)
		spoil[at](t, d, &x)
		if mustEnd(t, fmt.Sprint("seed ", seed), d, &x) {
			ended[at][0]++
		} else {
			ended[at][1]++
		}
	}
	for at, n := range ended {
		if n[0] < 50 || n[1] < 10 && at != 2 {
			t.Errorf("the kind %d: %d were opened, %d were not", at, n[0], n[1])
		}
	}
}

// R1: disks all of whose sectors are anything.
func TestNothingButAnything(t *testing.T) {
	for seed := range 300 {
		x := row(seed)
		d := mustDisk(t, x.next(120)+1)
		for i := range d.Len() {
			if x.next(8) > 0 {
				mustPut(t, d, i, x.anyBytes(api.SectorSize))
			}
		}
		if mustEnd(t, fmt.Sprint("seed ", seed), d, &x) {
			t.Errorf("seed %d: it was opened", seed)
		}
	}
}

// R1: a list of free pages that leads back, to a page in use, to none, or far.
func TestListsThatLeadAnywhere(t *testing.T) {
	for to := range 60 {
		d := mustDisk(t, 64)
		p := mustFormat(t, d)
		for i := range 5 {
			mustTake(t, p, text(i))
		}
		for _, n := range []int{2, 4, 5} {
			must(t, "Drop", p.Drop(n), api.OK)
		}
		must(t, "Commit", p.Commit(), api.OK)
		must(t, "Settle", p.Settle(), api.OK)
		mustPut(t, d, 17+4, append(code.Count(nil, to), make([]byte, api.SectorSize)...)[:api.SectorSize])
		x := row(to)
		if ok := mustEnd(t, fmt.Sprint("to ", to), d, &x); ok != (to == 0 || to == 2) {
			t.Errorf("a list that leads to %d: opened: %v", to, ok)
		}
	}
}

// R1: free pages that say no link.
func TestFreePagesThatSayNoLink(t *testing.T) {
	behind := full(0)
	behind[api.SectorSize-1] = 1
	for what, b := range map[string][]byte{
		"a link":           full(0),
		"something behind": behind,
		"no count":         full(0xFF),
		"a text":           text(1),
	} {
		d := mustDisk(t, 64)
		p := mustFormat(t, d)
		must(t, "Drop", p.Drop(mustTake(t, p, text(1))), api.OK)
		must(t, "Commit", p.Commit(), api.OK)
		must(t, "Settle", p.Settle(), api.OK)
		mustPut(t, d, 17+1, b)
		x := row(1)
		if ok := mustEnd(t, what, d, &x); ok != (what == "a link") {
			t.Errorf("%s: opened: %v", what, ok)
		}
	}
}

// R1, P5.1: whatever lies on a disk, Format makes a pager of it.
func TestFormatOfSpoiltDisks(t *testing.T) {
	for seed := range 300 {
		x := row(seed)
		d := lived(t, &x)
		spoilRecords(t, d, &x)
		spoilTop(t, d, &x)
		p := &played{d: d, p: mustFormat(t, d), m: newMind(d.Len()), told: fmt.Sprint("seed ", seed, ": ")}
		mustAgree(t, p.told, p.p, p.m)
		for range 40 {
			p.do(t, x.anyCall(p.m))
		}
		p.do(t, call{kind: anOpen})
	}
}

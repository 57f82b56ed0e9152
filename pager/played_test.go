package pager_test

import (
	"fmt"
	"hash/maphash"
	"maps"
	"slices"
	"testing"

	"buttery/api"
	"buttery/disk"
	"buttery/pager"
)

// short tells a view.
func (v view) short() string {
	s := fmt.Sprintf("root %d", v.root)
	for _, n := range slices.Sorted(maps.Keys(v.used)) {
		s += fmt.Sprintf(" [%d: % X ..]", n, v.used[n][:3])
	}
	return s
}

// text tells a call.
func (x call) text() string {
	s := []string{"Alloc", "Write", "Short", "Long", "Drop", "SetRoot", "Commit", "Abort", "Settle", "Open"}[x.kind]
	return fmt.Sprintf("%s %d %d; ", s, x.n, x.seed)
}

// played is a pager, and how it must stand.
type played struct {
	d    *disk.Disk
	p    *pager.Pager
	m    *mind
	may  []view // how it may be found when the disk is dead
	told string // what was done so far
}

// begin is a pager on a new disk.
func begin(t *testing.T, sectors int) *played {
	t.Helper()
	d := mustDisk(t, sectors)
	return &played{d: d, p: mustFormat(t, d), m: newMind(sectors), told: fmt.Sprint(sectors, " sectors: ")}
}

// again is a pager that stands as p's at the last commit, with a disk of its own.
func (p *played) again(t *testing.T) *played {
	t.Helper()
	q := *p
	q.d, q.m = p.d.Copy(), p.m.copy()
	q.p = mustOpen(t, q.d)
	q.m.think(call{kind: anOpen}, nil)
	return &q
}

// answer is what a call answers; of Alloc the page that it told, too.
func (p *played) answer(t *testing.T, x call) (int, api.Errno) {
	t.Helper()
	switch x.kind {
	case anAlloc:
		n, err := p.p.Alloc()
		if err != api.OK && n != 0 {
			t.Fatalf("%s: Alloc: %d, %v", p.told, n, err)
		}
		return n, err
	case aWrite:
		return x.n, p.p.Write(x.n, text(x.seed))
	case aShort:
		return x.n, p.p.Write(x.n, text(x.seed)[1:])
	case aLong:
		return x.n, p.p.Write(x.n, append(text(x.seed), 1))
	case aDrop:
		return x.n, p.p.Drop(x.n)
	case aRoot:
		return x.n, p.p.SetRoot(x.n)
	case aCommit:
		return x.n, p.p.Commit()
	case anAbort:
		return x.n, p.p.Abort()
	case aSettle:
		return x.n, p.p.Settle()
	}
	q, err := pager.Open(p.d)
	if err == api.OK {
		p.p = q
	}
	return x.n, err
}

// quick does a call, and asks what it answers; it tells whether the disk lives.
func (p *played) quick(t *testing.T, x call) bool {
	t.Helper()
	p.told += x.text()
	want := p.m.expected(x)
	n, got := p.answer(t, x)
	p.may = []view{p.m.kept}
	if p.d.Dead() && want == api.OK {
		must(t, p.told, got, api.ErrDead)
		mustStand(t, p.told+"dead", p.p, stands{p.m.pages(), p.m.free(), p.m.now.root})
		if x.kind == aCommit {
			p.may = append(p.may, p.m.now)
		}
		return false
	}
	must(t, p.told, got, want)
	if got != api.OK {
		return true
	}
	var b []byte
	if x.kind == anAlloc {
		p.told += fmt.Sprint("(", n, "); ")
		if n < 1 || n >= p.m.pages() || p.m.now.used[n] != nil {
			t.Fatalf("%s: Alloc: %d", p.told, n)
		}
		b, _ = p.p.Read(n)
		x.n = n
	}
	p.m.think(x, b)
	return true
}

// do is quick, and asks that all is as in mind then.
func (p *played) do(t *testing.T, x call) bool {
	t.Helper()
	if !p.quick(t, x) {
		return false
	}
	mustAgree(t, p.told, p.p, p.m)
	return true
}

// doKind does a call of a kind, to the last page in use if there is one.
func (p *played) doKind(t *testing.T, kind int) bool {
	t.Helper()
	n := 1
	for at := range p.m.now.used {
		n = max(n, at)
	}
	return p.do(t, call{kind, n, len(p.told)})
}

// play does calls, till the disk dies.
func (p *played) play(t *testing.T, calls []call) {
	t.Helper()
	for _, x := range calls {
		if !p.quick(t, x) {
			return
		}
	}
}

// crash crashes the disk, behind a call.
func (p *played) crash(t *testing.T, keep []bool) {
	t.Helper()
	must(t, "disk.Crash", p.d.Crash(keep), api.OK)
	p.may = []view{p.m.kept}
}

// rise opens the pager of a dead disk, and asks that it is found as it may be; it goes on
// with that.
func (p *played) rise(t *testing.T) {
	t.Helper()
	p.told += "crash; "
	p.d = mustReopen(t, p.d)
	p.p = mustOpen(t, p.d)
	p.found(t)
}

// found asks that the pager is as it may be, and goes on with that.
func (p *played) found(t *testing.T) {
	t.Helper()
	v := viewOf(t, p.told, p.p)
	p.mustBeOneOf(t, v)
	p.m = &mind{p.m.sectors, v.copy(), v, map[int]bool{}}
	mustAgree(t, p.told, p.p, p.m)
}

// mustBeOneOf asks that a view is one that may be found.
func (p *played) mustBeOneOf(t *testing.T, v view) {
	t.Helper()
	s := ""
	for _, w := range p.may {
		if w.same(v) {
			return
		}
		s += "; may be " + w.short()
	}
	t.Fatalf("%s: %s%s", p.told, v.short(), s)
}

// seed is that of all sights.
var seed = maphash.MakeSeed()

// sight tells two disks apart that are not alike.
func sight(t *testing.T, d *disk.Disk) uint64 {
	t.Helper()
	var h maphash.Hash
	h.SetSeed(seed)
	for i := range d.Len() {
		h.Write(mustGet(t, d, i))
	}
	return h.Sum64()
}

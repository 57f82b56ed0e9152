package pager_test

import (
	"bytes"
	"maps"
	"math"
	"slices"
	"testing"

	"buttery/api"
	"buttery/pager"
)

// view is how pages stand in mind: the root, and those in use with their bytes.
type view struct {
	root int
	used map[int][]byte
}

func (v view) copy() view { return view{v.root, maps.Clone(v.used)} }

// same says whether two views are alike.
func (v view) same(w view) bool {
	return v.root == w.root && maps.EqualFunc(v.used, w.used, bytes.Equal)
}

// mind is a pager in mind: lists, and what the chapter's words say is done to them.
type mind struct {
	sectors   int
	kept, now view
	touched   map[int]bool // what was taken, written, dropped since the last commit
}

func newMind(sectors int) *mind {
	return &mind{sectors: sectors, kept: view{used: map[int][]byte{}}, now: view{used: map[int][]byte{}}, touched: map[int]bool{}}
}

func (m *mind) copy() *mind {
	return &mind{m.sectors, m.kept.copy(), m.now.copy(), maps.Clone(m.touched)}
}

func (m *mind) pages() int { return m.sectors - 1 - m.sectors/4 }

func (m *mind) free() int { return m.pages() - 1 - len(m.now.used) }

func (m *mind) mayBeRoot(n int) bool { return n == 0 || m.now.used[n] != nil }

// Kinds of calls.
const (
	anAlloc = iota
	aWrite
	aShort // a Write of too few bytes
	aLong  // and of too many
	aDrop
	aRoot
	aCommit
	anAbort
	aSettle
	anOpen // the pager is opened again, without its change
)

// call is a call; n is a page, and seed says what is written.
type call struct{ kind, n, seed int }

// expected is what a call must answer, if the disk does not die.
func (m *mind) expected(x call) api.Errno {
	bad := false
	switch x.kind {
	case anAlloc:
		if m.free() == 0 {
			return api.ErrFull
		}
	case aWrite, aDrop:
		bad = m.now.used[x.n] == nil
	case aShort, aLong:
		bad = true
	case aRoot:
		bad = !m.mayBeRoot(x.n)
	case aCommit:
		if len(m.touched) > m.sectors/8 {
			return api.ErrFull
		}
		bad = !m.mayBeRoot(m.now.root)
	}
	if bad {
		return api.ErrArg
	}
	return api.OK
}

// think does in mind a call that answered OK; Alloc told a page that reads as b.
func (m *mind) think(x call, b []byte) {
	switch x.kind {
	case anAlloc:
		m.now.used[x.n], m.touched[x.n] = b, true
	case aWrite:
		m.now.used[x.n], m.touched[x.n] = text(x.seed), true
	case aDrop:
		delete(m.now.used, x.n)
		m.touched[x.n] = true
	case aRoot:
		m.now.root = x.n
	case aCommit:
		m.kept, m.touched = m.now.copy(), map[int]bool{}
	case anAbort, anOpen:
		m.now, m.touched = m.kept.copy(), map[int]bool{}
	}
}

// viewOf is all that a pager tells, if it is sound: of the pages that it reads as many are
// as are not free, and 0 and the numbers beside all pages are none of them.
func viewOf(t *testing.T, what string, p *pager.Pager) view {
	t.Helper()
	v := view{p.Root(), map[int][]byte{}}
	for n := -1; n <= p.Pages(); n++ {
		b, err := p.Read(n)
		switch {
		case err == api.OK && len(b) == api.SectorSize && n > 0 && n < p.Pages():
			v.used[n] = b
		case err != api.ErrArg || len(b) != 0:
			t.Fatalf("%s: Read(%d): %d bytes, %v", what, n, len(b), err)
		}
	}
	if p.Free() != p.Pages()-1-len(v.used) {
		t.Fatalf("%s: Free %d, but %d of %d pages are in use", what, p.Free(), len(v.used), p.Pages())
	}
	return v
}

// mustAgree asks that a pager is as it is in mind.
func mustAgree(t *testing.T, what string, p *pager.Pager, m *mind) {
	t.Helper()
	mustStand(t, what, p, stands{m.pages(), m.free(), m.now.root})
	if got := viewOf(t, what, p); !got.same(m.now) {
		t.Fatalf("%s: %s, want %s", what, got.short(), m.now.short())
	}
}

// far are numbers that are no page that can be in use, of so many pages.
func far(pages int) []int {
	return []int{0, -1, -2, math.MinInt, pages, pages + 1, pages + api.MaxSectors, math.MaxInt}
}

// anyCall is a call to a pager that stands so in mind, most of them such that are not
// refused.
func (r *row) anyCall(m *mind) call {
	x := call{seed: r.next(1000), n: 1}
	used := slices.Sorted(maps.Keys(m.now.used))
	if len(used) > 0 {
		x.n = used[r.next(len(used))]
	}
	if at := r.next(20); at == 0 {
		x.n = far(m.pages())[r.next(len(far(m.pages())))]
	} else if at == 1 {
		x.n = r.next(m.pages())
	}
	switch at := r.next(64); {
	case at < 14:
		x.kind = anAlloc
	case at < 30:
		x.kind = aWrite
	case at < 38:
		x.kind = aDrop
	case at < 42:
		x.kind = aRoot
	case at < 56:
		x.kind = aCommit
	case at < 58:
		x.kind = anAbort
	case at < 60:
		x.kind = aSettle
	case at < 62:
		x.kind = anOpen
	default:
		x.kind = []int{aShort, aLong}[at-62]
	}
	return x
}

// P5.5: many long rows of drawn calls: all that is told is as it is in mind, behind each.
func TestLongRowsAsInMind(t *testing.T) {
	t.Parallel()
	for seed := range 150 {
		r := row(seed)
		p := begin(t, []int{64, 65, 66, 67, 71, 72, 80, 101}[seed%8])
		for range 150 {
			p.do(t, r.anyCall(p.m))
		}
	}
}

// P5.5: all rows of five calls, out of some of each kind.
func TestAllRowsAsInMind(t *testing.T) {
	t.Parallel()
	kinds := []int{anAlloc, aWrite, aDrop, aRoot, aCommit, anAbort, anOpen}
	all := 1
	for range 5 {
		all *= len(kinds)
	}
	for i := range all {
		p := begin(t, 64)
		p.do(t, call{kind: anAlloc})
		for left := i; left > 0; left /= len(kinds) {
			p.doKind(t, kinds[left%len(kinds)])
		}
	}
}

// P5.5: rows that hardly ever commit, so that changes grow above what fits, and all pages
// are taken.
func TestFullPagersAsInMind(t *testing.T) {
	for seed := range 40 {
		r := row(seed)
		p := begin(t, 64+seed)
		for range 200 {
			x := r.anyCall(p.m)
			if x.kind == anAbort && r.next(4) > 0 || x.kind == anOpen || x.kind == aDrop && r.next(3) > 0 {
				x.kind = anAlloc
			}
			p.do(t, x)
		}
		for p.m.free() > 0 {
			p.do(t, call{kind: anAlloc})
		}
		p.do(t, call{kind: anAlloc})
		p.do(t, call{kind: aCommit})
		p.do(t, call{kind: anAbort})
	}
}

// P5.5: a greater disk, with greater changes.
func TestGreaterDiskAsInMind(t *testing.T) {
	r := row(7)
	p := begin(t, 700)
	for range 40 {
		for n := r.next(140); n > 0; n-- {
			x := r.anyCall(p.m)
			if x.kind >= aCommit {
				x.kind = aWrite
			}
			p.quick(t, x)
		}
		for p.m.expected(call{kind: aCommit}) == api.ErrArg {
			p.quick(t, call{kind: aRoot})
		}
		p.do(t, call{kind: aCommit})
		if r.next(3) == 0 {
			p.do(t, call{kind: anOpen})
		}
		p.do(t, call{kind: anAbort})
	}
}

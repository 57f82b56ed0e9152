package ring_test

import (
	"fmt"
	"slices"
	"testing"

	"buttery/api"
	"buttery/disk"
	"buttery/ring"
)

// Calls that are no Append; an Append is told by how many bytes it has.
const (
	aSync   = -1
	anEmpty = -2
)

// played is a ring that is played with, and what must be in it.
type played struct {
	d            *disk.Disk
	r            *ring.Ring
	first, count int
	base         int
	records      [][]byte // what was appended behind the base
	synced       int      // how many of these must last
	made         [][]byte // all that was ever handed to Append
	told         string   // what was done so far
}

// begin is a ring of count sectors of a disk on which nothing was written.
func begin(t *testing.T, first, count, base int) *played {
	t.Helper()
	p := &played{d: mustDisk(t, first+count), first: first, count: count, base: base}
	p.r, _ = mustOpen(t, p.d, first, count, base)
	return p
}

// again is a ring that stands as p's, with a disk of its own.
func (p *played) again(t *testing.T) *played {
	t.Helper()
	q := *p
	q.d = p.d.Copy()
	q.records, q.made = slices.Clone(p.records), slices.Clone(p.made)
	q.r, _ = mustOpen(t, q.d, q.first, q.count, q.base)
	return &q
}

// expected is what Append of a record of so many bytes must answer, if the disk does not
// die.
func (p *played) expected(n int) api.Errno {
	pieces, room := 0, p.count
	for _, rec := range append(slices.Clone(p.records), make([]byte, n)) {
		pieces = max((len(rec)+500)/501, 1)
		room -= pieces
	}
	switch {
	case pieces > p.count:
		return api.ErrTooLarge
	case room < 0:
		return api.ErrFull
	}
	return api.OK
}

// do does a call, and asks what it answers; it tells whether the disk lives.
func (p *played) do(t *testing.T, call int) bool {
	t.Helper()
	p.told += fmt.Sprint(call, "; ")
	switch call {
	case aSync:
		if p.r.Sync() == api.OK {
			p.synced = len(p.records)
		}
	case anEmpty:
		top := p.r.Top()
		if got := p.r.Empty(); got != top {
			t.Fatalf("%s: Empty: %d, want %d", p.told, got, top)
		}
		p.base, p.records, p.synced = top, nil, 0
	default:
		rec, want := text(call, len(p.made)+1), p.expected(call)
		p.made = append(p.made, rec)
		got := p.r.Append(rec)
		if got != want && !(got == api.ErrDead && p.d.Dead()) {
			t.Fatalf("%s: Append: %v, want %v", p.told, got, want)
		}
		// One that was under way when the disk died may be there as a whole, too.
		if want == api.OK {
			p.records = append(p.records, rec)
		}
	}
	return !p.d.Dead()
}

// play does calls, till the disk dies.
func (p *played) play(t *testing.T, calls []int) {
	t.Helper()
	for _, call := range calls {
		if !p.do(t, call) {
			return
		}
	}
}

// mustBeWhole asks that Open with the ring's base tells all that was appended.
func (p *played) mustBeWhole(t *testing.T) {
	t.Helper()
	r, l := mustOpenAsInMind(t, p.told, p.d, p.first, p.count, p.base)
	mustTell(t, p.told, l, p.records)
	mustStand(t, p.told, r, stateOf(p.r))
}

// rise opens the ring of a dead disk, and asks that all is there that must be, and nothing
// that must not; it empties one that is torn, and goes on with it.
func (p *played) rise(t *testing.T) {
	t.Helper()
	p.told += "crash; "
	p.d = mustReopen(t, p.d)
	r, l := mustOpenAsInMind(t, p.told, p.d, p.first, p.count, p.base)
	if len(l) < p.synced || len(l) > len(p.records) {
		t.Fatalf("%s: %s, want %d to %d", p.told, short(l), p.synced, len(p.records))
	}
	mustTell(t, p.told, l, p.records[:len(l)])
	p.r, p.records = r, l
	if r.Top() > r.Last() {
		must(t, p.told+"Append", r.Append(nil), api.ErrState)
		p.base, p.records = r.Empty(), nil
	}
	p.synced = len(p.records)
	p.mustBeWhole(t)
}

// sight is all that can be seen of a ring whose disk has just risen.
func (p *played) sight(t *testing.T) string {
	t.Helper()
	return fmt.Sprintf("%d %q %q", p.base, p.records, sectors(t, p.d))
}

package ring_test

import (
	"fmt"
	"math"
	"testing"

	"buttery/api"
	"buttery/disk"
	"buttery/ring"
)

// put lays a record's pieces into the sectors of a ring in mind, from the number behind
// last on, and answers how many these are.
func put(ring [][]byte, rec []byte, last int) int {
	n := 0
	for {
		n++
		at := (last + n) % len(ring)
		if len(rec) <= 501 {
			ring[at] = whole(last+n, rec)
			return n
		}
		ring[at] = begun(last+n, rec[:501])
		rec = rec[501:]
	}
}

// P4.2: records of all lengths at which something is another one: the bytes of all
// sectors, how many writes wait and were done, and how the ring stands.
func TestAppend(t *testing.T) {
	const first, count = 2, 5
	for _, n := range []int{0, 1, 2, 255, 256, 257, 500, 501, 502, 1001, 1002, 1003, 1503, 1504, 2004, 2005, 2504, 2505} {
		for _, base := range []int{0, 1, 3, 4, 5, 255, 256, 1<<40 + 2, ring.MaxNumber - 5} {
			what := fmt.Sprintf("%d bytes behind %d", n, base)
			d := mustDisk(t, first+count+1)
			mustPut(t, d, 1, whole(1, []byte("ahead")))
			mustPut(t, d, 7, whole(7, []byte("behind")))
			want, rec := sectors(t, d), text(n, n)
			pieces := put(want[first:first+count], rec, base)
			r, _ := mustOpen(t, d, first, count, base)
			mustAppend(t, r, rec)
			mustStand(t, what, r, state{base, base + pieces, base + pieces, count - pieces})
			mustTell(t, what+": the sectors", sectors(t, d), want)
			if d.Waits() != 2+pieces || d.Done() != 2+pieces {
				t.Errorf("%s: Waits %d, Done %d, want %d", what, d.Waits(), d.Done(), 2+pieces)
			}
			mustTell(t, what+": the record", only(rec), only(text(n, n)))
			must(t, "Sync", r.Sync(), api.OK)
			if d.Waits() != 0 || d.Done() != 3+pieces {
				t.Errorf("%s: behind Sync Waits %d, Done %d, want 0, %d", what, d.Waits(), d.Done(), 3+pieces)
			}
			mustStand(t, what+", behind Sync", r, state{base, base + pieces, base + pieces, count - pieces})
			mustTell(t, what+", behind Sync: the sectors", sectors(t, d), want)
		}
	}
}

// only is a list of one record.
func only(rec []byte) [][]byte { return [][]byte{rec} }

// P4.2: one record behind the other, over what stood in the sectors.
func TestAppendBehindOthers(t *testing.T) {
	d := mustDisk(t, 6)
	for at := range 6 {
		mustPut(t, d, at, text(api.SectorSize, at))
	}
	want := sectors(t, d)
	r, _ := mustOpen(t, d, 1, 4, 0)
	last := 0
	for i, n := range []int{0, 502, 501} {
		rec := text(n, 100+i)
		last += put(want[1:5], rec, last)
		mustAppend(t, r, rec)
		mustTell(t, "the sectors", sectors(t, d), want)
		mustStand(t, "behind a record", r, state{0, last, last, 4 - last})
	}
	must(t, "Append behind all", r.Append(nil), api.ErrFull)
	r.Empty()
	for i, n := range []int{1, 1003} {
		rec := text(n, 200+i)
		last += put(want[1:5], rec, last)
		mustAppend(t, r, rec)
		mustTell(t, "the second round: the sectors", sectors(t, d), want)
		mustStand(t, "the second round", r, state{4, last, last, 8 - last})
	}
}

// mustRefuse asks that Append refuses a record of n bytes, and that nothing is another
// one behind that.
func mustRefuse(t *testing.T, what string, d *disk.Disk, r *ring.Ring, n int, want api.Errno) {
	t.Helper()
	waits, done, stood := d.Waits(), d.Done(), stateOf(r)
	var was [][]byte
	if !d.Dead() {
		was = sectors(t, d)
	}
	if got := r.Append(make([]byte, n)); got != want {
		t.Errorf("%s: Append of %d bytes: %v, want %v", what, n, got, want)
	}
	mustStand(t, what, r, stood)
	if d.Waits() != waits || d.Done() != done {
		t.Errorf("%s: Waits %d, Done %d, want %d, %d", what, d.Waits(), d.Done(), waits, done)
	}
	if !d.Dead() {
		mustTell(t, what+": the sectors", sectors(t, d), was)
	}
}

// P4.2: each refusal by itself, and of several the one that is named first.
func TestAppendRefuses(t *testing.T) {
	const count, more = 4, 4*ring.Data + 1
	open := func(base int, pieces ...[]byte) (*disk.Disk, *ring.Ring) {
		d := mustDisk(t, count)
		mustLay(t, d, 0, count, pieces)
		r, _ := mustOpen(t, d, 0, count, base)
		return d, r
	}
	d, r := open(0)
	mustRefuse(t, "an empty one", d, r, more, api.ErrTooLarge)
	mustRefuse(t, "an empty one", d, r, 1<<20, api.ErrTooLarge)
	mustAppend(t, r, nil)
	mustRefuse(t, "room for 3", d, r, more-1, api.ErrFull)
	mustRefuse(t, "room for 3", d, r, 3*ring.Data+1, api.ErrFull)
	mustRefuse(t, "room for 3", d, r, more, api.ErrTooLarge)
	mustAppend(t, r, make([]byte, 3*ring.Data))
	mustRefuse(t, "a full one", d, r, 0, api.ErrFull)
	mustRefuse(t, "a full one", d, r, more, api.ErrTooLarge)
	d, r = open(0, whole(1, nil), whole(3, nil))
	mustRefuse(t, "a torn one", d, r, 0, api.ErrState)
	mustRefuse(t, "a torn one", d, r, more-1, api.ErrState)
	mustRefuse(t, "a torn one", d, r, more, api.ErrTooLarge)
	d, r = open(0, whole(ring.MaxNumber, nil))
	mustRefuse(t, "torn by the greatest number", d, r, 0, api.ErrState)
	d, r = open(ring.MaxNumber)
	mustRefuse(t, "the greatest number", d, r, 0, api.ErrExhausted)
	mustRefuse(t, "the greatest number", d, r, more-1, api.ErrExhausted)
	mustRefuse(t, "the greatest number", d, r, more, api.ErrTooLarge)
	d, r = open(ring.MaxNumber - 2)
	mustRefuse(t, "two numbers left", d, r, 2*ring.Data+1, api.ErrExhausted)
	mustAppend(t, r, make([]byte, ring.Data+1))
	mustStand(t, "no number left", r, state{ring.MaxNumber - 2, ring.MaxNumber, ring.MaxNumber, 2})
	mustRefuse(t, "no number left", d, r, 0, api.ErrExhausted)
	mustRefuse(t, "no number left", d, r, 2*ring.Data+1, api.ErrFull)
	mustRefuse(t, "no number left", d, r, more, api.ErrTooLarge)
}

// P4.2: a dead disk is told ahead of all else, and the ring stands as it did.
func TestDeadDisk(t *testing.T) {
	for base, pieces := range map[int][][]byte{
		0:              nil,
		5:              {whole(6, []byte("ab"))},
		6:              {whole(6, nil), whole(8, nil)},
		ring.MaxNumber: nil,
	} {
		d := mustDisk(t, 4)
		mustLay(t, d, 0, 4, pieces)
		r, _ := mustOpen(t, d, 0, 4, base)
		stood := stateOf(r)
		must(t, "Crash", d.Crash([]bool{true, true}), api.OK)
		for _, n := range []int{0, 1, 4 * ring.Data, 4*ring.Data + 1} {
			mustRefuse(t, "a dead disk", d, r, n, api.ErrDead)
		}
		must(t, "Sync", r.Sync(), api.ErrDead)
		mustStand(t, "a dead disk", r, stood)
		if top := r.Empty(); top != stood.top {
			t.Errorf("Empty: %d, want %d", top, stood.top)
		}
		mustStand(t, "a dead disk, emptied", r, state{stood.top, stood.top, stood.top, 4})
		must(t, "Append", r.Append(nil), api.ErrDead)
	}
}

// P4.2: a disk that dies at each of the writes of a record of three pieces: those that were
// written are there, in their order, if they are kept; the ring stands as it did.
func TestDiskDiesInAppend(t *testing.T) {
	rec := text(2*ring.Data+3, 7)
	for k := range 3 {
		for _, keep := range allKeeps(k + 1) {
			d := mustDisk(t, 6)
			r, _ := mustOpen(t, d, 1, 5, 8)
			mustAppend(t, r, []byte("ahead"))
			must(t, "Sync", r.Sync(), api.OK)
			must(t, "Fuse", d.Fuse(k, keep), api.OK)
			must(t, "Append", r.Append(rec), api.ErrDead)
			mustStand(t, "a disk that died", r, state{8, 9, 9, 4})
			must(t, "Append once more", r.Append(rec), api.ErrDead)
			must(t, "Sync", r.Sync(), api.ErrDead)
			all := [][]byte{begun(10, rec[:ring.Data]), begun(11, rec[ring.Data:2*ring.Data]), whole(12, rec[2*ring.Data:])}
			want := sectors(t, mustDisk(t, 6))
			want[1+9%5] = whole(9, []byte("ahead"))
			for i, kept := range keep {
				if kept {
					want[1+(10+i)%5] = all[i]
				}
			}
			mustTell(t, fmt.Sprint("what was kept: ", keep), sectors(t, mustReopen(t, d)), want)
		}
	}
}

// P4.2: Sync where the disk dies at it.
func TestDiskDiesInSync(t *testing.T) {
	d := mustDisk(t, 4)
	r, _ := mustOpen(t, d, 0, 4, 0)
	mustAppend(t, r, []byte("ab"))
	must(t, "Fuse", d.Fuse(0, nil), api.OK)
	must(t, "Sync", r.Sync(), api.ErrDead)
	mustStand(t, "a disk that died", r, state{0, 1, 1, 3})
	_, l := mustOpen(t, mustReopen(t, d), 0, 4, 0)
	mustTell(t, "nothing was kept", l, nil)
}

// P4.2: what is handed in stays as it was, with the room behind its end, and may be
// written over then.
func TestAppendKeepsNothing(t *testing.T) {
	d := mustDisk(t, 6)
	r, _ := mustOpen(t, d, 0, 6, 0)
	var want [][]byte
	for i, n := range []int{0, 3, ring.Data, 2*ring.Data + 1} {
		room := text(3*ring.Data, i)
		was := text(3*ring.Data, i)
		if i == 3 {
			r.Empty()
			want = nil
		}
		mustAppend(t, r, room[:n])
		want = append(want, was[:n])
		mustTell(t, "what was handed in", only(room), only(was))
		scribble(room)
		_, l := mustOpen(t, d, 0, 6, r.Base())
		mustTell(t, "behind writing over it", l, want)
	}
}

// P4.3: nobody's ring.
func TestNobodysRing(t *testing.T) {
	var r *ring.Ring
	mustStand(t, "nobody's", r, state{})
	for _, rec := range [][]byte{nil, {}, {1}, make([]byte, 1<<20)} {
		must(t, "Append", r.Append(rec), api.ErrNil)
	}
	must(t, "Sync", r.Sync(), api.ErrNil)
	if n := r.Empty(); n != 0 {
		t.Errorf("Empty: %d", n)
	}
	mustStand(t, "nobody's, emptied", r, state{})
}

// R1: a ring that did not come out of Open does not panic.
func TestRingOfNoOpen(t *testing.T) {
	r := &ring.Ring{}
	for range 2 {
		if r.Append(nil) == api.OK || r.Sync() == api.OK {
			t.Error("a ring without a disk was written to")
		}
		r.Empty()
		stateOf(r)
	}
}

// P4.3: Empty of rings with and without records, and of torn ones: nothing is written,
// and Append goes on behind the top.
func TestEmpty(t *testing.T) {
	full := text(ring.Data, 1)
	for what, x := range map[string]struct {
		pieces [][]byte
		base   int
		top    int
	}{
		"an untouched one":         {nil, 0, 0},
		"an untouched one, base 7": {nil, 7, 7},
		"one record":               {[][]byte{whole(1, full)}, 0, 1},
		"a full one":               {[][]byte{whole(1, nil), whole(2, full), begun(3, full), whole(4, nil)}, 0, 4},
		"a torn one, a gap":        {[][]byte{whole(1, nil), whole(3, full)}, 0, 3},
		"a torn one, no end":       {[][]byte{whole(1, nil), begun(2, full)}, 0, 2},
		"a torn one, far":          {[][]byte{whole(1, nil), whole(1<<40+1, full)}, 0, 1<<40 + 1},
		"forgotten ones":           {[][]byte{whole(1, nil), whole(3, full)}, 5, 5},
		"near the end":             {[][]byte{whole(ring.MaxNumber-2, full)}, 0, ring.MaxNumber - 2},
	} {
		d := mustDisk(t, 5)
		mustLay(t, d, 1, 4, x.pieces)
		r, _ := mustOpen(t, d, 1, 4, x.base)
		was, waits, done := sectors(t, d), d.Waits(), d.Done()
		for range 2 {
			if top := r.Empty(); top != x.top {
				t.Errorf("%s: Empty: %d, want %d", what, top, x.top)
			}
			mustStand(t, what, r, state{x.top, x.top, x.top, 4})
		}
		mustTell(t, what+": the sectors", sectors(t, d), was)
		if d.Waits() != waits || d.Done() != done {
			t.Errorf("%s: Waits %d, Done %d, want %d, %d", what, d.Waits(), d.Done(), waits, done)
		}
		rec := text(ring.Data+1, 5)
		mustAppend(t, r, rec)
		put(was[1:5], rec, x.top)
		mustTell(t, what+", behind Append: the sectors", sectors(t, d), was)
		mustStand(t, what+", behind Append", r, state{x.top, x.top + 2, x.top + 2, 2})
		_, l := mustOpenAsInMind(t, what, d, 1, 4, x.top)
		mustTell(t, what, l, only(rec))
	}
}

// P4.3: Empty at the last number.
func TestEmptyAtTheEnd(t *testing.T) {
	d := mustDisk(t, 4)
	r, _ := mustOpen(t, d, 0, 4, ring.MaxNumber-1)
	mustAppend(t, r, nil)
	if top := r.Empty(); top != 1<<62 {
		t.Errorf("Empty: %d", top)
	}
	mustStand(t, "at the end", r, state{ring.MaxNumber, ring.MaxNumber, ring.MaxNumber, 4})
	must(t, "Append", r.Append(nil), api.ErrExhausted)
	mustNotOpen(t, d, 0, 4, math.MaxInt, api.ErrArg)
}

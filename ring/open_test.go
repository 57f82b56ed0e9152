package ring_test

import (
	"bytes"
	"math"
	"strconv"
	"testing"

	"buttery/api"
	"buttery/disk"
	"buttery/ring"
)

// mustNotOpen asks that Open is refused, and answers nothing else.
func mustNotOpen(t *testing.T, d *disk.Disk, first, count, base int, want api.Errno) {
	t.Helper()
	r, l, err := ring.Open(d, first, count, base)
	if err != want || r != nil || len(l) != 0 {
		t.Errorf("Open(d, %d, %d, %d): a ring %v, %d records, %v, want %v", first, count, base, r != nil, len(l), err, want)
	}
}

// noRings are first, count and base of no ring of a disk of 10 sectors; of some of them
// first and count together are no int.
func noRings() [][3]int {
	return [][3]int{
		{-1, 4, 0}, {-1, 1, 0}, {-1, 11, 0}, {math.MinInt, 4, 0}, {math.MinInt, math.MaxInt, 0},
		{0, 0, 0}, {2, 0, 0}, {10, 0, 0}, {2, -1, 0}, {2, math.MinInt, 0}, {-1, -1, 0}, {math.MinInt, math.MinInt, 0},
		{0, 11, 0}, {1, 10, 0}, {9, 2, 0}, {10, 1, 0}, {11, 1, 0}, {0, api.MaxSectors, 0},
		{0, math.MaxInt, 0}, {1, math.MaxInt, 0}, {9, math.MaxInt, 0}, {math.MaxInt, 1, 0}, {math.MaxInt, math.MaxInt, 0},
		{math.MaxInt - 3, 8, 0}, {math.MaxInt/2 + 1, math.MaxInt/2 + 1, 0},
		{2, 4, -1}, {2, 4, math.MinInt}, {2, 4, ring.MaxNumber + 1}, {2, 4, math.MaxInt},
	}
}

// P4.1: what Open refuses.
func TestOpenRefuses(t *testing.T) {
	d := mustDisk(t, 10)
	mustPut(t, d, 3, whole(1, []byte("ab")))
	for _, x := range noRings() {
		mustNotOpen(t, d, x[0], x[1], x[2], api.ErrArg)
		mustNotOpen(t, nil, x[0], x[1], x[2], api.ErrNil)
	}
	mustNotOpen(t, nil, 2, 4, 0, api.ErrNil)
	must(t, "Crash", d.Crash([]bool{true}), api.OK)
	for _, x := range noRings() {
		mustNotOpen(t, d, x[0], x[1], x[2], api.ErrArg)
	}
	mustNotOpen(t, d, 2, 4, 0, api.ErrDead)
	mustNotOpen(t, d, 0, 10, ring.MaxNumber, api.ErrDead)
}

// P4.1: the edges that Open allows, on an untouched disk.
func TestOpenOfUntouchedDisk(t *testing.T) {
	for _, x := range [][3]int{
		{0, 10, 0}, {0, 1, 0}, {9, 1, 0}, {2, 8, 0}, {2, 4, 1}, {2, 4, 1 << 40}, {2, 4, ring.MaxNumber - 1}, {2, 4, ring.MaxNumber},
	} {
		first, count, base := x[0], x[1], x[2]
		r, l := mustOpen(t, mustDisk(t, 10), first, count, base)
		mustTell(t, "an untouched disk", l, nil)
		mustStand(t, "an untouched disk", r, state{base, base, base, count})
	}
}

// P4.1: Open writes nothing, whatever it finds, and burns no fuse.
func TestOpenWritesNothing(t *testing.T) {
	d := mustDisk(t, 8)
	mustPut(t, d, 3, whole(1, []byte("ab")))
	mustPut(t, d, 4, begun(2, text(ring.Data, 1)))
	must(t, "Flush", d.Flush(), api.OK)
	mustPut(t, d, 2, whole(4, nil))
	mustPut(t, d, 5, whole(9, nil))
	must(t, "Fuse", d.Fuse(0, nil), api.OK)
	was := sectors(t, d)
	for base := range 12 {
		for count := 1; count <= 6; count++ {
			mustOpen(t, d, 2, count, base)
		}
	}
	if d.Waits() != 2 || d.Done() != 5 || d.Dead() {
		t.Errorf("Waits %d, Done %d, Dead %v, want 2, 5, false", d.Waits(), d.Done(), d.Dead())
	}
	mustTell(t, "the sectors", sectors(t, d), was)
	must(t, "the fuse", d.Flush(), api.ErrDead)
}

// strange are sectors that somebody else wrote, none of which has a piece: each would
// have the piece 6 of a ring of 4 sectors, in its third one, but for one thing.
func strange() map[string][]byte {
	full := text(ring.Data, 6)
	m := map[string][]byte{
		"the number 0":                    whole(0, []byte("ab")),
		"another sector's number":         whole(5, []byte("ab")),
		"another sector's number, above":  whole(7, []byte("ab")),
		"a number above MaxNumber":        laid(1<<62+2, 1, 2, []byte("ab")),
		"a number of 63 bits":             laid(1<<63-2, 1, 2, []byte("ab")),
		"a number of 64 bits":             laid(1<<63+2, 1, 2, []byte("ab")),
		"a number of 64 bits, below 0":    laid(1<<64-2, 1, 2, []byte("ab")),
		"the number's bytes turned about": laid(6<<56, 1, 2, []byte("ab")),
		"2 behind the number":             laid(6, 2, 2, []byte("ab")),
		"3 behind the number":             laid(6, 3, ring.Data, full),
		"128 behind the number":           laid(6, 128, ring.Data, full),
		"255 behind the number":           laid(6, 255, 2, []byte("ab")),
		"a byte too many":                 laid(6, 1, ring.Data+1, full),
		"a byte too many, not the last":   laid(6, 0, ring.Data+1, full),
		"256 bytes too many":              laid(6, 1, ring.Data+256, full),
		"all bytes, and 65535":            laid(6, 1, 65535, full),
		"not the last, and none":          laid(6, 0, 0, nil),
		"not the last, and two":           laid(6, 0, 2, []byte("ab")),
		"not the last, and one too few":   laid(6, 0, ring.Data-1, full[:ring.Data-1]),
		"all bytes, and one too few":      laid(6, 1, ring.Data-1, full),
		"a byte, but none is told":        laid(6, 1, 0, []byte("a")),
		"more bytes than are told":        laid(6, 1, 2, []byte("abc")),
		"the size's bytes turned about":   laid(6, 1, 2<<8, []byte("ab")),
		"all 255":                         bytes.Repeat([]byte{255}, api.SectorSize),
		"all 1":                           bytes.Repeat([]byte{1}, api.SectorSize),
		"all 0":                           make([]byte, api.SectorSize),
	}
	for _, at := range []int{13, 14, 255, 256, api.SectorSize - 2, api.SectorSize - 1} {
		b := whole(6, []byte("ab"))
		b[at] = 1
		m["no nought at the place "+strconv.Itoa(at)] = b
	}
	for at := range 256 {
		b := whole(6, make([]byte, at))
		b[11+at] = 1
		m["no nought behind the bytes, "+strconv.Itoa(at)] = b
	}
	return m
}

// P4.1: sectors that have no piece are passed over: the top does not count them, what is
// in the ring ends ahead of them.
func TestSectorsWithoutPiece(t *testing.T) {
	for name, b := range strange() {
		d := mustDisk(t, 10)
		mustPut(t, d, 5, b)
		r, l := mustOpen(t, d, 3, 4, 0)
		mustTell(t, name, l, nil)
		mustStand(t, name, r, state{0, 0, 0, 4})
		mustPut(t, d, 4, whole(5, []byte("five")))
		r, l = mustOpen(t, d, 3, 4, 4)
		mustTell(t, name, l, [][]byte{[]byte("five")})
		mustStand(t, name, r, state{4, 5, 5, 3})
		mustPut(t, d, 6, whole(7, []byte("seven")))
		r, l = mustOpen(t, d, 3, 4, 4)
		mustTell(t, name+", 7", l, [][]byte{[]byte("five")})
		mustStand(t, name+", 7", r, state{4, 5, 7, 0})
	}
}

// P4.1: sectors at the edges that do have a piece.
func TestSectorsWithPiece(t *testing.T) {
	full := text(ring.Data, 6)
	for _, data := range [][]byte{nil, {0}, {1}, make([]byte, ring.Data), full, full[:ring.Data-1], full[:255], full[:256], full[:257]} {
		d := mustDisk(t, 10)
		mustPut(t, d, 5, whole(6, data))
		r, l := mustOpen(t, d, 3, 4, 5)
		mustTell(t, "a last one", l, [][]byte{data})
		mustStand(t, "a last one", r, state{5, 6, 6, 3})
		// A record need not be cut as Append cuts it: behind pieces that are not the last
		// one there may be a last one of whatever length, of 0 too.
		mustPut(t, d, 4, begun(5, full))
		r, l = mustOpen(t, d, 3, 4, 4)
		mustTell(t, "the last one of two", l, [][]byte{append(full[:ring.Data:ring.Data], data...)})
		mustStand(t, "the last one of two", r, state{4, 6, 6, 2})
	}
}

// P4.1: pieces of the greatest numbers.
func TestGreatestNumbers(t *testing.T) {
	const top = ring.MaxNumber
	d := mustDisk(t, 4)
	mustPut(t, d, top%4, whole(top, []byte("z")))
	mustPut(t, d, (top-1)%4, whole(top-1, []byte("y")))
	for _, x := range []struct {
		base int
		want [][]byte
		then state
	}{
		{top, nil, state{top, top, top, 4}},
		{top - 1, [][]byte{[]byte("z")}, state{top - 1, top, top, 3}},
		{top - 2, [][]byte{[]byte("y"), []byte("z")}, state{top - 2, top, top, 2}},
		{top - 3, nil, state{top - 3, top - 3, top, 0}},
	} {
		r, l := mustOpen(t, d, 0, 4, x.base)
		mustTell(t, "the greatest numbers", l, x.want)
		mustStand(t, "the greatest numbers", r, x.then)
	}
}

// P4.1: torn rings, and others, by their bases.
func TestBases(t *testing.T) {
	one, two, full := []byte("one"), []byte("two"), text(ring.Data, 3)
	tail := append(full[:ring.Data:ring.Data], 'e')
	for what, x := range map[string]struct {
		pieces [][]byte // by their sectors
		base   int
		want   [][]byte
		then   state
	}{
		"two records":               {[][]byte{1: whole(1, one), 2: whole(2, two)}, 0, [][]byte{one, two}, state{0, 2, 2, 3}},
		"the base 1":                {[][]byte{1: whole(1, one), 2: whole(2, two)}, 1, [][]byte{two}, state{1, 2, 2, 4}},
		"the base is the last":      {[][]byte{1: whole(1, one), 2: whole(2, two)}, 2, nil, state{2, 2, 2, 5}},
		"a base above all":          {[][]byte{1: whole(1, one), 2: whole(2, two)}, 3, nil, state{3, 3, 3, 5}},
		"a base far above all":      {[][]byte{1: whole(1, one), 2: whole(2, two)}, 99, nil, state{99, 99, 99, 5}},
		"a gap":                     {[][]byte{1: whole(1, one), 3: whole(3, two)}, 0, [][]byte{one}, state{0, 1, 3, 0}},
		"a gap, the base behind":    {[][]byte{1: whole(1, one), 3: whole(3, two)}, 2, [][]byte{two}, state{2, 3, 3, 4}},
		"none ahead of one":         {[][]byte{2: whole(2, two)}, 0, nil, state{0, 0, 2, 0}},
		"no end":                    {[][]byte{1: whole(1, one), 2: begun(2, full)}, 0, [][]byte{one}, state{0, 1, 2, 0}},
		"no end, and no beginning":  {[][]byte{1: begun(1, full), 2: begun(2, full)}, 0, nil, state{0, 0, 2, 0}},
		"two pieces":                {[][]byte{1: begun(1, full), 2: whole(2, []byte("e"))}, 0, [][]byte{tail}, state{0, 2, 2, 3}},
		"a base between two pieces": {[][]byte{1: begun(1, full), 2: whole(2, []byte("e"))}, 1, [][]byte{[]byte("e")}, state{1, 2, 2, 4}},
		"once round":                {[][]byte{0: whole(5, one), 1: whole(6, two), 4: whole(4, full)}, 3, [][]byte{full, one, two}, state{3, 6, 6, 2}},
		"forgotten ones":            {[][]byte{0: whole(5, one), 1: whole(1, one), 2: whole(2, two)}, 4, [][]byte{one}, state{4, 5, 5, 4}},
		"a round ahead":             {[][]byte{1: whole(1, one), 2: whole(7, two)}, 0, [][]byte{one}, state{0, 1, 7, 0}},
		"full":                      {[][]byte{whole(10, one), begun(6, full), whole(7, []byte("e")), whole(8, nil), whole(9, two)}, 5, [][]byte{tail, nil, two, one}, state{5, 10, 10, 0}},
		"full, and more":            {[][]byte{whole(10, one), whole(11, one), whole(7, two), whole(8, nil), whole(9, two)}, 5, nil, state{5, 5, 11, 0}},
	} {
		d := mustDisk(t, 8)
		for at, b := range x.pieces {
			if b != nil {
				mustPut(t, d, 2+at, b)
			}
		}
		mustPut(t, d, 1, whole(4, []byte("outside"))) // ahead of the ring, and behind it
		mustPut(t, d, 7, whole(5, []byte("outside")))
		r, l := mustOpen(t, d, 2, 5, x.base)
		mustTell(t, what, l, x.want)
		mustStand(t, what, r, x.then)
	}
}

// P4.1: a ring of one sector, and one of all sectors that a disk may have.
func TestLeastAndGreatestRing(t *testing.T) {
	d := mustDisk(t, 1)
	mustPut(t, d, 0, whole(1000, []byte("ab")))
	r, l := mustOpen(t, d, 0, 1, 999)
	mustTell(t, "one sector", l, [][]byte{[]byte("ab")})
	mustStand(t, "one sector", r, state{999, 1000, 1000, 0})
	d = mustDisk(t, api.MaxSectors)
	mustPut(t, d, api.MaxSectors-1, whole(2*api.MaxSectors-1, []byte("y")))
	mustPut(t, d, 0, whole(2*api.MaxSectors, []byte("z")))
	r, l = mustOpen(t, d, 0, api.MaxSectors, 2*api.MaxSectors-2)
	mustTell(t, "all sectors", l, [][]byte{[]byte("y"), []byte("z")})
	mustStand(t, "all sectors", r, state{2*api.MaxSectors - 2, 2 * api.MaxSectors, 2 * api.MaxSectors, api.MaxSectors - 2})
}

// P4.1: what waits on the disk is there as what lasts is.
func TestOpenReadsWhatWaits(t *testing.T) {
	d := mustDisk(t, 4)
	mustPut(t, d, 1, whole(1, []byte("lasts")))
	must(t, "Flush", d.Flush(), api.OK)
	mustPut(t, d, 2, whole(2, []byte("waits")))
	_, l := mustOpen(t, d, 0, 4, 0)
	mustTell(t, "what waits", l, [][]byte{[]byte("lasts"), []byte("waits")})
}

// P4.1: the records that are told are new memory, each with its spare room.
func TestRecordsAreNewMemory(t *testing.T) {
	d := mustDisk(t, 12)
	r, _ := mustOpen(t, d, 1, 10, 0)
	var want [][]byte
	for _, n := range []int{3, 0, ring.Data, ring.Data + 1, 2*ring.Data + 5, 1} {
		want = append(want, text(n, n))
		mustAppend(t, r, want[len(want)-1])
	}
	_, l := mustOpen(t, d, 1, 10, 0)
	_, more := mustOpen(t, d, 1, 10, 0)
	for i := range l {
		scribble(l[i])
		mustTell(t, "the records behind", l[i+1:], want[i+1:])
	}
	mustTell(t, "told at the same time", more, want)
	scribbled := l[:cap(l)]
	clear(scribbled)
	_, again := mustOpen(t, d, 1, 10, 0)
	mustTell(t, "told again", again, want)
	mustTell(t, "told at the same time", more, want)
}

// P4.1: Pieces.
func TestPieces(t *testing.T) {
	for n, want := range map[int]int{
		math.MinInt: 0, -ring.Data: 0, -2: 0, -1: 0, 0: 1, 1: 1, 2: 1, 500: 1, 501: 1, 502: 2, 1001: 2, 1002: 2, 1003: 3, 2004: 4, 2005: 5,
		math.MaxInt: math.MaxInt/501 + 1,
	} {
		if got := ring.Pieces(n); got != want {
			t.Errorf("Pieces(%d): %d, want %d", n, got, want)
		}
	}
	pieces, room := 1, ring.Data
	for n := range 20 * ring.Data {
		if n > room {
			pieces, room = pieces+1, room+ring.Data
		}
		if got := ring.Pieces(n); got != pieces {
			t.Fatalf("Pieces(%d): %d, want %d", n, got, pieces)
		}
	}
	if ring.Data != 501 || ring.MaxNumber != 1<<62 {
		t.Errorf("Data %d, MaxNumber %d", ring.Data, ring.MaxNumber)
	}
}

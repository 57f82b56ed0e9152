package ring_test

import (
	"bytes"
	"encoding/binary"
	"fmt"
	"testing"

	"buttery/disk"
	"buttery/ring"
)

// found is a piece in mind.
type found struct {
	last bool
	data []byte
}

// piecesInMind are the pieces that a ring's sectors have, by their numbers, as the
// chapter's words say it.
func piecesInMind(sectors [][]byte) map[int]found {
	m := map[int]found{}
	for at, b := range sectors {
		number, size := binary.LittleEndian.Uint64(b), int(binary.LittleEndian.Uint16(b[9:]))
		switch {
		case number < 1, number > 1<<62:
		case number%uint64(len(sectors)) != uint64(at):
		case b[8] > 1, size > 501, b[8] == 0 && size < 501:
		case len(bytes.Trim(b[11+size:], "\x00")) > 0:
		default:
			m[int(number)] = found{b[8] == 1, b[11 : 11+size]}
		}
	}
	return m
}

// openInMind is what a ring of these sectors tells, and how it stands.
func openInMind(sectors [][]byte, base int) ([][]byte, state) {
	m := piecesInMind(sectors)
	s := state{base: base, last: base, top: base, room: len(sectors)}
	for number := range m {
		s.top = max(s.top, number)
	}
	var records [][]byte
	rec := []byte{}
	for number := base + 1; number <= base+len(sectors); number++ {
		p, ok := m[number]
		if !ok {
			break
		}
		rec = append(rec, p.data...)
		if p.last {
			records, rec, s.last = append(records, rec), []byte{}, number
		}
	}
	s.room -= s.last - base
	if s.top > s.last {
		s.room = 0
	}
	return records, s
}

// mustOpenAsInMind asks that a ring is opened as it is in mind.
func mustOpenAsInMind(t *testing.T, what string, d *disk.Disk, first, count, base int) (*ring.Ring, [][]byte) {
	t.Helper()
	want, stands := openInMind(sectors(t, d)[first:first+count], base)
	r, got := mustOpen(t, d, first, count, base)
	mustTell(t, what, got, want)
	mustStand(t, what, r, stands)
	return r, got
}

// anySector is a sector for a ring of count sectors: of a number near base, or of a
// greater one, most of them as they must be.
func (r *row) anySector(base, count, at int) []byte {
	number := base - base%count + at + count*(r.next(4)-1)
	if r.next(8) == 0 {
		number += r.next(3)
	}
	data := text(ring.Data, r.next(100))
	switch r.next(12) {
	case 0:
		return laid(uint64(number), byte(r.next(4)), r.next(600), data[:r.next(ring.Data)])
	case 1:
		return make([]byte, ring.Data+11)
	case 2, 3, 4:
		return begun(number, data)
	}
	return whole(number, data[:r.next(ring.Data+1)])
}

// P4.1: rings of whatever sectors, opened with bases near their numbers, are as in mind.
func TestAnySectorsAsInMind(t *testing.T) {
	torn, told := 0, 0
	for seed := range 6000 {
		x := row(seed)
		count, first := x.next(7)+1, x.next(3)
		base := []int{0, 1, x.next(40), 1 << 40, ring.MaxNumber - x.next(9)}[x.next(5)]
		d := mustDisk(t, first+count+x.next(2))
		for at := range count {
			mustPut(t, d, first+at, x.anySector(base, count, at))
		}
		for b := max(base-3, 0); b <= min(base+3, ring.MaxNumber); b++ {
			what := fmt.Sprintf("seed %d, base %d", seed, b)
			r, l := mustOpenAsInMind(t, what, d, first, count, b)
			told += len(l)
			if r.Top() > r.Last() {
				torn++
			}
		}
	}
	if torn < 1000 || told < 1000 {
		t.Errorf("only %d were torn, only %d records were told", torn, told)
	}
}

// P4.1: the same of all rings of three sectors, each with one of some pieces or none.
func TestAllSmallRingsAsInMind(t *testing.T) {
	full := text(ring.Data, 1)
	var grow func(l [][]byte)
	grow = func(l [][]byte) {
		if len(l) < 3 {
			at := len(l)
			grow(append(l[:at:at], make([]byte, ring.Data+11)))
			for number := at; number < 9; number += 3 {
				grow(append(l[:at:at], whole(number, []byte{1, 2})))
				grow(append(l[:at:at], begun(number, full)))
			}
			return
		}
		d := mustDisk(t, 5)
		for at, b := range l {
			mustPut(t, d, 1+at, b)
		}
		for base := range 10 {
			mustOpenAsInMind(t, fmt.Sprintf("% X, base %d", l, base), d, 1, 3, base)
		}
	}
	grow(nil)
}

package ring

import "buttery/api"

// Where in a sector stands what of its piece; the number stands ahead of all.
const (
	lastAt = 8
	sizeAt = 9
	dataAt = api.SectorSize - Data
)

// sector is a sector's bytes.
type sector [api.SectorSize]byte

// piece is a part of a record, as much as a sector has room for.
type piece struct {
	number int
	last   bool
	data   []byte
}

// sector is the piece's sector.
func (p piece) sector() sector {
	var s sector
	for i := range lastAt {
		s[i] = byte(p.number >> (8 * i))
	}
	if p.last {
		s[lastAt] = 1
	}
	s[sizeAt], s[sizeAt+1] = byte(len(p.data)), byte(len(p.data)>>8)
	copy(s[dataAt:], p.data)
	return s
}

// pieceIn is the piece that a sector's bytes are, if they are one. That nothing else stands
// in them is asked by making the piece's sector once more: it must be the same.
func pieceIn(b []byte) (piece, bool) {
	var s sector
	copy(s[:], b)
	number, size := s.number(), s.size()
	if number < 1 || number > MaxNumber || size > Data {
		return piece{}, false
	}
	p := piece{number: int(number), last: s[lastAt] == 1, data: s[dataAt : dataAt+size]}
	if !p.last && size < Data || p.sector() != s {
		return piece{}, false
	}
	return p, true
}

// number is the number that stands in a sector, whatever it is.
func (s *sector) number() uint64 {
	var n uint64
	for i := range lastAt {
		n |= uint64(s[i]) << (8 * i)
	}
	return n
}

// size is how many bytes a sector says that its piece has.
func (s *sector) size() int { return int(s[sizeAt]) | int(s[sizeAt+1])<<8 }

// cut is asked for one piece of a record after the other; the first one's number is the one
// behind last.
func cut(rec []byte, last int) func() (piece, bool) {
	left := Pieces(len(rec))
	return func() (piece, bool) {
		if left == 0 {
			return piece{}, false
		}
		left--
		last++
		n := min(len(rec), Data)
		p := piece{number: last, last: left == 0, data: rec[:n]}
		rec = rec[n:]
		return p, true
	}
}

// run is asked for one piece after the other, from the one behind base on, as long as each
// is there. It comes to its end: no place has two numbers.
func run(there []piece, base int) func() (piece, bool) {
	number := base
	return func() (piece, bool) {
		number++
		p := there[number%len(there)]
		return p, p.number == number
	}
}

package msg

import (
	"math"

	"buttery/api"
	"buttery/code"
)

// writer writes what it passes over, as long as a message has room for it.
type writer struct {
	bytes []byte
	full  bool // there was no room: nothing is written any more
}

func (w *writer) kind(k *uint8) { w.put(code.Count(nil, int(*k))) }

func (w *writer) num(n *int) { w.put(code.Num(nil, int64(*n))) }

// text writes a text. One that has no room is not written for that: it may be very long.
func (w *writer) text(s *string) {
	if len(*s) > api.MaxBody {
		w.full = true
		return
	}
	w.put(code.Str(nil, *s))
}

func (w *writer) flag(v *bool) { w.put(code.Flag(nil, *v)) }

func (w *writer) many(n int) int {
	w.put(code.Count(nil, n))
	return n
}

func (w *writer) stopped() bool { return w.full }

// put writes bytes behind those that are there. They come by themselves, since what code
// writes behind others it writes with all of these in new memory.
func (w *writer) put(b []byte) {
	w.full = w.full || len(w.bytes)+len(b) > api.MaxBody
	if !w.full {
		w.bytes = append(w.bytes, b...)
	}
}

// reader reads what it passes over.
type reader struct{ *code.Reader }

func (r reader) kind(k *uint8) { *k = uint8(r.Count(math.MaxUint8)) }

// num reads a number. One that has no room in an int is none: Count fails with a bound below
// 0.
func (r reader) num(n *int) {
	x := r.Num()
	*n = int(x)
	if int64(*n) != x {
		r.Count(-1)
	}
}

func (r reader) text(s *string) { *s = r.Str(api.MaxBody) }

func (r reader) flag(v *bool) { *v = r.Flag() }

// many reads how many things follow. Each has a byte or more, so that there are never more
// of them than bytes are left.
func (r reader) many(int) int { return r.Count(r.Left()) }

func (r reader) stopped() bool { return !r.OK() }

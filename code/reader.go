package code

import "buttery/api"

// Reader reads bytes.
type Reader struct{ rest }

// NewReader is a reader at the beginning.
func NewReader(b []byte) *Reader {
	return &Reader{rest{bytes: copied(b, 0)}}
}

// Num reads a number.
func (r *Reader) Num() int64 {
	return tell(r, (*Reader).num)
}

// Count reads a count.
func (r *Reader) Count(most int) int {
	return tell(r, func(r *Reader) (int, bool) { return r.count(most) })
}

// Str reads a text.
func (r *Reader) Str(most int) string {
	return tell(r, func(r *Reader) (string, bool) { return r.str(most) })
}

// Flag reads a truth value.
func (r *Reader) Flag() bool {
	return tell(r, (*Reader).flag)
}

// Left is how many bytes are left.
func (r *Reader) Left() int {
	if r == nil {
		return 0
	}
	return r.left()
}

// OK says whether it has not failed.
func (r *Reader) OK() bool {
	return r != nil && !r.failed
}

// Done says whether all was read.
func (r *Reader) Done() bool {
	return r.OK() && r.Left() == 0
}

// tell is what read finds in a reader that has not failed. All kinds of things go
// through it, so that a reader that fails at one of them is failed for all.
func tell[T any](r *Reader, read func(*Reader) (T, bool)) T {
	var none T
	if !r.OK() {
		return none
	}
	v, ok := read(r)
	if !ok {
		r.fail()
		return none
	}
	return v
}

// rest is what a reader has left.
type rest struct {
	bytes  []byte
	failed bool
}

// left is how many bytes are left.
func (p *rest) left() int {
	return len(p.bytes)
}

// fail lets the bytes go: nothing of a failed reader is told any more.
func (p *rest) fail() {
	*p = rest{failed: true}
}

// take takes the next n bytes.
func (p *rest) take(n int) ([]byte, bool) {
	if n > len(p.bytes) {
		return nil, false
	}
	b := p.bytes[:n]
	p.bytes = p.bytes[n:]
	return b, true
}

// bits takes what put has put. It refuses what put never puts (noughts at the end,
// more than 64 bits), so that there are no two ways to write one thing.
func (p *rest) bits() (uint64, bool) {
	var u uint64
	for i, x := range p.bytes {
		if i == longest-1 && x > 1 {
			break
		}
		u |= uint64(x&127) << (7 * i)
		if x < 128 {
			p.bytes = p.bytes[i+1:]
			return u, x > 0 || i == 0
		}
	}
	return 0, false
}

func (p *rest) num() (int64, bool) {
	u, ok := p.bits()
	return unfold(u), ok
}

func (p *rest) count(most int) (int, bool) {
	u, ok := p.bits()
	if !ok || most < 0 || u > uint64(min(most, api.MaxCount)) {
		return 0, false
	}
	return int(u), true
}

func (p *rest) str(most int) (string, bool) {
	n, ok := p.count(most)
	if !ok {
		return "", false
	}
	b, ok := p.take(n)
	return string(b), ok
}

func (p *rest) flag() (bool, bool) {
	b, ok := p.take(1)
	if !ok || b[0] > 1 {
		return false, false
	}
	return b[0] == 1, true
}

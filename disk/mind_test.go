package disk_test

import (
	"slices"
	"strconv"
	"testing"

	"buttery/api"
	"buttery/disk"
)

// mind is a disk in mind: lists, and what the chapter's words say is done to them. A
// sector is the one byte of which it is made.
type mind struct {
	lasts []byte
	waits []put
	done  int
	dead  bool
	fuse  []bool // what it keeps
	left  int    // -1: there is no fuse
}

// put is a write in mind.
type put struct {
	at int
	c  byte
}

func newMind(n int) *mind { return &mind{lasts: make([]byte, n), left: -1} }

func (m *mind) read(i int) byte {
	for _, w := range slices.Backward(m.waits) {
		if w.at == i {
			return w.c
		}
	}
	return m.lasts[i]
}

func (m *mind) flush() {
	for _, w := range m.waits {
		m.lasts[w.at] = w.c
	}
	m.waits = nil
}

func (m *mind) crash(keep []bool) {
	for i, w := range m.waits {
		if i < len(keep) && keep[i] {
			m.lasts[w.at] = w.c
		}
	}
	m.waits, m.dead = nil, true
}

// step is what a Write or a Flush that is not refused answers.
func (m *mind) step() api.Errno {
	if m.left == 0 {
		m.crash(m.fuse)
		return api.ErrDead
	}
	if m.left > 0 {
		m.left--
	}
	m.done++
	return api.OK
}

func (m *mind) copy() *mind {
	c := *m
	c.lasts, c.waits = slices.Clone(m.lasts), slices.Clone(m.waits)
	return &c
}

// Kinds of calls.
const (
	aWrite = iota
	aShort // a Write of too few bytes
	aFlush
	aCrash
	aFuse
	aReopen
	aCopy // what is done next is done to the copy
)

// call is a call; n is a sector, or a fuse's number.
type call struct {
	kind, n int
	c       byte
	keep    []bool
}

// text tells a call.
func (x call) text() string {
	s := []string{"Write", "Short", "Flush", "Crash", "Fuse", "Reopen", "Copy"}[x.kind]
	s += " " + strconv.Itoa(x.n) + " " + strconv.Itoa(int(x.c))
	for _, k := range x.keep {
		s += " " + strconv.FormatBool(k)
	}
	return s
}

// think does a call in mind.
func (m *mind) think(x call) (*mind, api.Errno) {
	if x.kind == aCopy {
		return m.copy(), api.OK
	}
	if x.kind == aReopen {
		if !m.dead {
			return m, api.ErrState
		}
		return &mind{lasts: slices.Clone(m.lasts), left: -1}, api.OK
	}
	if m.dead {
		return m, api.ErrDead
	}
	switch x.kind {
	case aShort:
		return m, api.ErrArg
	case aWrite:
		if x.n < 0 || x.n >= len(m.lasts) {
			return m, api.ErrArg
		}
		m.waits = append(m.waits, put{x.n, x.c})
		return m, m.step()
	case aFlush:
		if err := m.step(); err != api.OK {
			return m, err
		}
		m.flush()
	case aCrash:
		m.crash(x.keep)
	case aFuse:
		if x.n < 0 {
			return m, api.ErrArg
		}
		m.fuse, m.left = slices.Clone(x.keep), x.n
	}
	return m, api.OK
}

// do does a call to a disk; a Reopen that is refused leaves the disk as it is.
func do(d *disk.Disk, x call) (*disk.Disk, api.Errno) {
	switch x.kind {
	case aShort:
		return d, d.Write(x.n, full(x.c)[1:])
	case aWrite:
		return d, d.Write(x.n, full(x.c))
	case aFlush:
		return d, d.Flush()
	case aCrash:
		return d, d.Crash(x.keep)
	case aFuse:
		return d, d.Fuse(x.n, x.keep)
	case aCopy:
		return d.Copy(), api.OK
	}
	e, err := d.Reopen()
	if err != api.OK {
		e = d
	}
	return e, err
}

// mustAgree asks that a disk is as it is in mind.
func mustAgree(t *testing.T, what string, d *disk.Disk, m *mind) {
	t.Helper()
	if d.Len() != len(m.lasts) {
		t.Fatalf("%s: Len %d, want %d", what, d.Len(), len(m.lasts))
	}
	mustStand(t, what, d, len(m.waits), m.done, m.dead)
	for i := range m.lasts {
		if m.dead {
			mustNotRead(t, d, i, api.ErrDead)
		} else {
			mustRead(t, d, i, m.read(i))
		}
	}
}

// other is a disk that was left behind, and how it must stand from then on.
type other struct {
	d *disk.Disk
	m *mind
}

// play plays calls on a disk of n sectors, and in mind, and asks behind each that both are
// alike; and so at last of the disks of which others were made.
func play(t *testing.T, n int, l []call) {
	t.Helper()
	d, m := mustNew(t, n), newMind(n)
	var behind []other
	told := ""
	for _, x := range l {
		told += x.text() + "; "
		wasD, wasM := d, m
		var got, want api.Errno
		d, got = do(d, x)
		m, want = m.think(x)
		must(t, told, got, want)
		mustAgree(t, told, d, m)
		if m != wasM {
			behind = append(behind, other{wasD, wasM})
		}
	}
	for _, o := range behind {
		mustAgree(t, told+"what was left behind", o.d, o.m)
	}
}

// P3.1, P3.2: all rows of five calls, out of some of each kind, on a disk of two sectors.
func TestAllRowsAsInMind(t *testing.T) {
	some := []call{
		{kind: aWrite, n: 0, c: 1}, {kind: aWrite, n: 1, c: 2}, {kind: aWrite, n: 0, c: 3},
		{kind: aFlush},
		{kind: aCrash}, {kind: aCrash, keep: []bool{false, true, true}},
		{kind: aFuse, n: 0, keep: []bool{true}}, {kind: aFuse, n: 1, keep: []bool{true, true}},
		{kind: aReopen}, {kind: aCopy},
	}
	var grow func(l []call)
	grow = func(l []call) {
		if len(l) == 5 {
			play(t, 2, l)
			return
		}
		for _, x := range some {
			grow(append(l[:len(l):len(l)], x))
		}
	}
	grow(nil)
}

// anyCall is a call, which may be one that is refused, to a disk of n sectors.
func (r *row) anyCall(n int) call {
	x := call{c: byte(r.next(200) + 1), keep: r.keeps(r.next(9))}
	switch at := r.next(40); {
	case at < 22:
		x.kind, x.n = aWrite, r.next(n)
	case at < 23:
		x.kind, x.n = aWrite, far(n)[r.next(len(far(n)))]
	case at < 24:
		x.kind, x.n = aShort, r.next(n)
	case at < 28:
		x.kind = aFlush
	case at < 30:
		x.kind = aCrash
	case at < 33:
		x.kind, x.n = aFuse, r.next(12)-1
	case at < 38:
		x.kind = aReopen
	default:
		x.kind = aCopy
	}
	return x
}

// P3.1, P3.2: many long rows of calls, some of which are refused.
func TestLongRowsAsInMind(t *testing.T) {
	for seed := range 400 {
		r := row(seed)
		n := r.next(6) + 1
		var l []call
		for range 120 {
			l = append(l, r.anyCall(n))
		}
		play(t, n, l)
	}
}

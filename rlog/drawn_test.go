package rlog_test

import (
	"encoding/binary"
	"math"
	"slices"
	"testing"

	"buttery/api"
	"buttery/rlog"
)

// P14.4: drawn entries that may be are read of what is written of them.
func TestBackOfDrawnEntries(t *testing.T) {
	r := row(1)
	for range 50000 {
		e := r.entry(one(&r, []int{1, 2, 127, 128, 1 + r.next(100000), maxCount - 1, maxCount}))
		mustCheck(t, e, true)
		mustRead(t, mustWrite(t, e, lay(e)), e)
	}
}

// turned are bytes some of which were turned, left out, put in, or taken once more.
func (r *row) turned(b []byte) []byte {
	b = slices.Clone(b)
	for range 1 + r.next(2) {
		i := r.next(len(b) + 1)
		x := one(r, []byte{0, 1, 2, 3, 4, 5, 6, 127, 128, 129, 255})
		switch k := r.next(6); {
		case len(b) == 0 || i == len(b) || k == 0:
			b = slices.Insert(b, i, x)
		case k == 1:
			b[i] ^= 1 << r.next(8)
		case k == 2:
			b[i] = x
		case k == 3:
			b = slices.Delete(b, i, min(i+1+r.next(3), len(b)))
		case k == 4:
			b[i], b[0] = b[0], b[i]
		default:
			b = slices.Insert(b, i, b[i])
		}
	}
	return b
}

// likely are drawn bytes that often are an entry's.
func (r *row) likely() []byte {
	n := r.next(3)
	b := binary.AppendUvarint(nil, uint64(one(r, []int{1, 2, 200, maxCount, 0})))
	b = append(b, byte(1+r.next(4)), byte(n))
	for range n {
		b = append(b, byte(r.next(256)))
	}
	n = r.next(3)
	b = append(b, byte(n))
	for range n {
		b = append(b, byte(r.next(7)))
	}
	return b
}

// mustGoBackToBytes draws bytes many times, and asks that they are read just if they are an
// entry's, and that what was read has just these bytes.
func mustGoBackToBytes(t *testing.T, draw func() []byte) {
	t.Helper()
	read, refused := 0, 0
	for range 100000 {
		b := draw()
		e, ok := unlay(b)
		if !ok {
			mustNotRead(t, "drawn", b)
			refused++
			continue
		}
		mustWrite(t, mustRead(t, b, e), b)
		read++
	}
	if read < 2000 || refused < 2000 {
		t.Errorf("%d were read, %d refused", read, refused)
	}
}

// P14.4: of what drawn entries' bytes became, what is read has just these bytes.
func TestBackOfTurnedBytes(t *testing.T) {
	r := row(2)
	mustGoBackToBytes(t, func() []byte { return r.turned(lay(r.entry(1 + r.next(300)))) })
}

// P14.4: of drawn bytes, many of which are an entry's.
func TestBackOfDrawnBytes(t *testing.T) {
	r := row(3)
	mustGoBackToBytes(t, r.likely)
}

// P14.4: of bytes of all kinds, however many.
func TestReadOfAnyBytes(t *testing.T) {
	r := row(4)
	for range 20000 {
		b := make([]byte, r.next(300))
		for i := range b {
			b[i] = byte(r.next(256))
		}
		if e, ok := unlay(b); ok {
			mustRead(t, b, e)
		} else {
			mustNotRead(t, "any", b)
		}
	}
	mustNotRead(t, "many", make([]byte, 1<<24))
}

// other are n entries to stand in a log behind its entry at an index, each of another term than
// the list L (whose first one has the index 1) has there.
func (r *row) other(L []api.Entry, index, n int) []api.Entry {
	term := 0
	if index > 0 {
		term = L[index-1].Term
	}
	var l []api.Entry
	for i := index; i < index+n; i++ {
		term = max(1, term+max(0, r.next(5)-2))
		if i < len(L) && L[i].Term == term {
			term++
		}
		l = append(l, r.entry(term))
	}
	return l
}

// termOf is the term at an index of a list whose first entry has the index 1.
func termOf(L []api.Entry, index int) int {
	if index == 0 {
		return 0
	}
	return L[index-1].Term
}

// mustBeLike asks that a log is the same as L from its base up to an index.
func mustBeLike(t *testing.T, g *rlog.Log, L []api.Entry, to int) {
	t.Helper()
	base, term := g.Base()
	if to < base {
		to = base
	}
	if termOf(L, base) != term {
		t.Fatalf("the base %d is of the term %d", base, term)
	}
	if l := g.From(base+1, to-base); !sameAll(l, L[base:to]) {
		t.Fatalf("from %d to %d: %s, want %s", base, to, shown(l), shown(L[base:to]))
	}
}

// P14.5: pieces of a log, merged in any order, with doublings and cuts in between, into a log
// that begins as it and goes on with entries of other terms.
func TestOneLog(t *testing.T) {
	done, refused, turned := 0, 0, 0
	for seed := range 4000 {
		r := row(seed)
		L := r.entries(0, r.next(25))
		base := one(&r, []int{0, 0, r.next(len(L) + 1)})
		like := base + r.next(len(L)-base+1) // up to here it is known to be the same
		g := mustNew(t, base, termOf(L, base), append(cloned(L[base:like]), r.other(L, like, r.next(12))...))
		pieces := [][2]int{{0, len(L)}}
		for range 15 {
			from := r.next(len(L) + 1)
			pieces = append(pieces, [2]int{from, from + r.next(min(len(L)-from, 8)+1)})
		}
		for range 40 {
			if r.next(8) == 0 {
				base, _ := g.Base()
				mustCut(t, g, base+r.next(like-base+1), api.OK)
			}
			x := one(&r, pieces)
			if r.next(3) > 0 {
				x = pieces[len(pieces)-1-r.next(5)]
			}
			i, err := g.Merge(x[0], termOf(L, x[0]), L[x[0]:x[1]])
			if (err == api.OK) != (x[0] <= like) || err != api.OK && err != api.ErrState {
				t.Fatalf("seed %d: Merge of the piece %v: %v; it is like L up to %d", seed, x, err, like)
			}
			if err != api.OK {
				refused++
				continue
			}
			done++
			turned += min(i, 1)
			like = max(like, x[1])
			mustBeLike(t, g, L, x[1])
			mustBeLike(t, g, L, like)
		}
	}
	if done < 10000 || refused < 1000 || turned < 1000 {
		t.Errorf("%d were done, %d refused, %d turned", done, refused, turned)
	}
}

// P14.6: drawn cuts: what is left is as it was, the last one too.
func TestCuts(t *testing.T) {
	for seed := range 3000 {
		r := row(seed)
		base := one(&r, []int{0, 1, r.next(100), maxCount - 30})
		term := r.next(4)
		g := mustNew(t, base, term, r.entries(term, r.next(20)))
		for range 5 {
			base, _ := g.Base()
			last, lastTerm := g.Last()
			i := base + r.next(last-base+1)
			was := g.Copy()
			mustCut(t, g, i, api.OK)
			if x, y := g.Last(); x != last || y != lastTerm {
				t.Fatalf("seed %d: Cut(%d): Last: %d %d, was %d %d", seed, i, x, y, last, lastTerm)
			}
			for index := i; index <= last; index++ {
				a, _ := was.Term(index)
				if b, ok := g.Term(index); a != b || !ok {
					t.Fatalf("seed %d: Cut(%d): Term(%d): %d, %v, was %d", seed, i, index, b, ok, a)
				}
				e, _ := was.Entry(index)
				if f, ok := g.Entry(index); index > i && (!same(e, f) || !ok) {
					t.Fatalf("seed %d: Cut(%d): Entry(%d): %s, %v, was %s", seed, i, index, shown(f), ok, shown(e))
				}
			}
			if l := g.From(0, math.MaxInt); !sameAll(l, was.From(i+1, math.MaxInt)) {
				t.Fatalf("seed %d: Cut(%d): %s, was %s", seed, i, shown(l), shown(was.From(i+1, math.MaxInt)))
			}
		}
	}
}

// piece is a drawn piece for a log: often one that begins in it, with terms about its own; now
// and then one that is wrong.
func (r *row) piece(m mind) (int, int, []api.Entry) {
	last, lastTerm := m.ends()
	prev := max(0, m.base-3) + r.next(last-max(0, m.base-3)+2)
	term, ok := m.termAt(prev)
	if !ok {
		term = r.next(max(1, m.term) + 1)
	}
	l := r.entries(term, r.next(7))
	for i := range l {
		if e, ok := m.at[prev+1+i]; ok && r.next(4) > 0 && (i == 0 || e.Term >= l[i-1].Term) {
			l[i] = r.entry(e.Term)
		}
	}
	switch r.next(25) {
	case 0:
		prev = one(r, ints())
	case 1:
		term = one(r, []int{term + 1, term - 1, lastTerm, maxCount, past(), -1})
	case 2:
		l = append(l, one(r, badEntries()))
	}
	return prev, term, l
}

// play does a drawn call with a log, and in mind, and asks that both answer alike.
func (r *row) play(t *testing.T, g *rlog.Log, m mind) mind {
	t.Helper()
	last, term := m.ends()
	var err api.Errno
	switch r.next(12) {
	case 0:
		i := one(r, []int{m.base - 1, m.base, m.base + 1, m.base + r.next(len(m.at)+1), last + 1, one(r, ints())})
		m, err = m.cut(i)
		mustCut(t, g, i, err)
	case 1:
		if r.next(5) > 0 {
			break
		}
		i, x := one(r, []int{last, r.next(50), one(r, ints()), maxCount - 9}), one(r, []int{term, r.next(5), one(r, ints())})
		m, err = m.reset(i, x)
		mustReset(t, g, i, x, err)
	case 2, 3, 4:
		e := r.entry(max(1, min(maxCount, term+r.next(4)-1)))
		if r.next(15) == 0 {
			e = one(r, badEntries())
		}
		m, err = m.added(e)
		mustAppend(t, g, e, err)
	default:
		prev, x, l := r.piece(m)
		var want int
		m, want, err = m.merged(prev, x, l)
		mustMerge(t, g, prev, x, l, want, err)
	}
	return m
}

// P14.2, P14.3: long drawn rows of calls, with copies that go their own ways.
func TestLongRowsAsInMind(t *testing.T) {
	for seed := range 300 {
		r := row(seed)
		base := one(&r, []int{0, 0, 7, maxCount - 12})
		logs, minds := []*rlog.Log{mustNew(t, base, 0, nil)}, []mind{thought(base, 0, nil)}
		for step := range 80 {
			k := r.next(len(logs))
			if r.next(30) == 0 {
				logs, minds = append(logs, logs[k].Copy()), append(minds, minds[k])
			}
			minds[k] = r.play(t, logs[k], minds[k])
			mustHaveEnds(t, "played", logs[k], minds[k])
			if l, want := logs[k].From(0, math.MaxInt), minds[k].list(); !sameAll(l, want) {
				t.Fatalf("seed %d, step %d: %s, want %s", seed, step, shown(l), shown(want))
			}
		}
		for k, g := range logs {
			mustStand(t, "at last", g, minds[k])
		}
	}
}

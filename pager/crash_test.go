package pager_test

import (
	"bytes"
	"fmt"
	"testing"

	"buttery/api"
	"buttery/pager"
	"buttery/ring"
)

// eachCrash does calls to a pager that stands as p, and crashes its disk by a fuse at each
// write and flush, and behind the last call, with every kind of keep. It hands over what
// stands then, dead.
func eachCrash(t *testing.T, p *played, calls []call, then func(q *played)) {
	t.Helper()
	all := p.again(t)
	from := all.d.Done()
	all.play(t, calls)
	steps := all.d.Done() - from
	for _, keep := range allKeeps(min(all.d.Waits(), 5)) {
		q := *all
		q.d = all.d.Copy()
		q.crash(t, keep)
		then(&q)
	}
	for k := range steps {
		for _, keep := range manyKeeps(k + 1) {
			q := p.again(t)
			must(t, "disk.Fuse", q.d.Fuse(k, keep), api.OK)
			q.play(t, calls)
			if !q.d.Dead() {
				t.Fatalf("%s: the fuse of %d did not burn", q.told, k)
			}
			q.told += fmt.Sprint("at ", k, " kept ", keep, ": ")
			then(q)
		}
	}
}

// risen are disks that were opened behind a crash, and how they were found.
type risen map[uint64]view

// eachOpening opens the pager of a dead disk, and does so with a crash at each write and
// flush of that, with every kind of keep; and the same of each disk that is left behind
// then, if there was none like it. It asks that the same is found however it went.
func eachOpening(t *testing.T, p *played, seen risen) {
	t.Helper()
	d := mustReopen(t, p.d)
	at := sight(t, d)
	v, ok := seen[at]
	if !ok {
		x := *p
		x.d = d.Copy()
		x.p = mustOpen(t, x.d)
		v = viewOf(t, x.told, x.p)
		seen[at] = v
		for k := range x.d.Done() {
			for _, keep := range manyKeeps(k + 1) {
				q := *p
				q.d, q.may = d.Copy(), []view{v}
				q.told += fmt.Sprint("Open cut at ", k, " kept ", keep, ": ")
				must(t, "disk.Fuse", q.d.Fuse(k, keep), api.OK)
				mustNotRise(t, &q)
				eachOpening(t, &q, seen)
			}
		}
	}
	p.mustBeOneOf(t, v)
}

// mustNotRise asks that Open answers that the disk died.
func mustNotRise(t *testing.T, p *played) {
	t.Helper()
	if q, err := pager.Open(p.d); err != api.ErrDead || q != nil {
		t.Fatalf("%s: Open: a pager %v, %v", p.told, q != nil, err)
	}
}

// some are rows of calls behind which a pager has something of each kind.
func some(t *testing.T) []*played {
	t.Helper()
	fresh := begin(t, 64)
	few := fresh.again(t)
	for _, kind := range []int{anAlloc, aWrite, anAlloc, aWrite, aRoot, aCommit, anAlloc, aWrite, aCommit} {
		few.doKind(t, kind)
	}
	settled := few.again(t)
	settled.do(t, call{kind: aSettle})
	dropped := few.again(t)
	for _, x := range []call{{anAlloc, 0, 0}, {anAlloc, 0, 0}, {aCommit, 0, 0}, {aDrop, 4, 0}, {aDrop, 1, 0}, {aCommit, 0, 0}} {
		dropped.do(t, x)
	}
	nearlyFull := dropped.again(t)
	for i := range 3 {
		for _, n := range []int{2, 3, 5} {
			nearlyFull.do(t, call{aWrite, n, 10*i + n})
		}
		nearlyFull.do(t, call{kind: aCommit})
	}
	return []*played{fresh, few, settled, dropped, nearlyFull}
}

// changes are changes of each kind; the first ones fit all pagers of some.
func changes() [][]call {
	return [][]call{
		{{anAlloc, 0, 0}},
		{{anAlloc, 0, 0}, {anAlloc, 0, 0}},
		{{aWrite, 2, 50}},
		{{aWrite, 2, 51}, {aWrite, 3, 52}},
		{{aRoot, 3, 0}},
		{{aDrop, 3, 0}},
		{{aRoot, 0, 0}, {aDrop, 2, 0}, {anAlloc, 0, 0}},
		{{aWrite, 3, 53}, {aDrop, 3, 0}, {anAlloc, 0, 0}, {anAlloc, 0, 0}, {aRoot, 3, 0}},
	}
}

// P5.4: a crash at each write and flush of a Commit, and of a Settle behind it, with every
// kind of keep, from pagers of each kind and by changes of each kind.
func TestCrashesOfCommits(t *testing.T) {
	t.Parallel()
	for _, p := range some(t) {
		for _, calls := range changes() {
			calls = append(calls, call{kind: aCommit})
			eachCrash(t, p, calls, func(q *played) { q.rise(t) })
			calls = append(calls, call{kind: aSettle})
			eachCrash(t, p, calls, func(q *played) { q.rise(t) })
		}
	}
}

// P5.4: the same of a Settle while there is a change that is not committed.
func TestCrashesOfSettle(t *testing.T) {
	for _, p := range some(t) {
		for _, calls := range changes() {
			calls = append(calls, call{kind: aSettle}, call{kind: aSettle})
			eachCrash(t, p, calls, func(q *played) { q.rise(t) })
		}
	}
}

// P5.4: the same of two Commits, the second of which has no room in the ring.
func TestCrashesOfFullRings(t *testing.T) {
	t.Parallel()
	for _, size := range []int{1, 3, 8} {
		p := begin(t, 64)
		for range 8 {
			p.do(t, call{kind: anAlloc})
		}
		p.do(t, call{kind: aCommit})
		p.do(t, call{kind: aSettle})
		write := func(seed int) []call {
			var l []call
			for n := range size {
				l = append(l, call{aWrite, 1 + n, seed + n})
			}
			return append(l, call{kind: aCommit})
		}
		left := 16
		for ; left >= 2*size+2; left -= size + 1 {
			p.play(t, write(left))
		}
		eachCrash(t, p, append(write(70), write(80)...), func(q *played) { q.rise(t) })
	}
}

// P5.4, P5.6: crashes in Opens behind a crash in a Commit, till no disk is left behind that
// was not seen; and what is found goes on.
func TestCrashesOfOpen(t *testing.T) {
	t.Parallel()
	seen := risen{}
	for _, p := range some(t) {
		for _, calls := range changes() {
			eachCrash(t, p, append(calls, call{kind: aCommit}), func(q *played) {
				before := len(seen)
				eachOpening(t, q, seen)
				if len(seen) == before {
					return
				}
				q.rise(t)
				for _, kind := range []int{anAlloc, aWrite, aRoot, aCommit, anOpen, aSettle, anOpen} {
					q.doKind(t, kind)
				}
			})
		}
	}
	if len(seen) < 200 {
		t.Errorf("only %d disks were seen", len(seen))
	}
}

// P5.4: a crash at each write and flush of a Format: of a new disk nothing is found, or a
// new pager; of one that had a pager this, or a new one.
func TestCrashesOfFormat(t *testing.T) {
	for _, p := range some(t) {
		for k := 0; !p.again(t).formats(t, k, nil); k++ {
			for _, keep := range manyKeeps(k + 1) {
				q := p.again(t)
				q.formats(t, k, keep)
				q.rise(t)
			}
		}
	}
	none := func() *played { return &played{d: mustDisk(t, 64), m: newMind(64)} }
	for k := 0; !none().formats(t, k, nil); k++ {
		for _, keep := range manyKeeps(k + 1) {
			q := none()
			q.formats(t, k, keep)
			d := mustReopen(t, q.d)
			if bytes.Equal(mustGet(t, d, 0), full(0)) {
				mustNotOpen(t, q.told, d, api.ErrForm)
				continue
			}
			q.rise(t)
		}
	}
}

// P5.4, P5.6: crashes in Opens, and in Formats, where the ring has the piece of a number near
// the end, so that its numbers begin anew.
func TestCrashesNearTheLastNumber(t *testing.T) {
	t.Parallel()
	p := begin(t, 64)
	for _, kind := range []int{anAlloc, aWrite, aRoot, aCommit} {
		p.doKind(t, kind)
	}
	r, _, err := ring.Open(p.d, 1, 16, ring.MaxNumber-2)
	must(t, "ring.Open", err, api.OK)
	must(t, "ring.Append", r.Append([]byte("ab")), api.OK)
	must(t, "ring.Sync", r.Sync(), api.OK)
	like := func() *played {
		q := *p
		q.d = p.d.Copy()
		return &q
	}
	seen := risen{}
	q := like()
	q.crash(t, nil)
	eachOpening(t, q, seen)
	for k := 0; !like().formats(t, k, nil); k++ {
		for _, keep := range manyKeeps(k + 1) {
			q := like()
			q.formats(t, k, keep)
			eachOpening(t, q, seen)
		}
	}
	if len(seen) < 20 {
		t.Errorf("only %d disks were seen", len(seen))
	}
}

// formats formats the disk, with a fuse; it tells whether the disk lives.
func (p *played) formats(t *testing.T, k int, keep []bool) bool {
	t.Helper()
	p.told += fmt.Sprint("Format cut at ", k, " kept ", keep, ": ")
	must(t, "disk.Fuse", p.d.Fuse(k, keep), api.OK)
	x, err := pager.Format(p.d)
	p.may = []view{p.m.kept, {used: map[int][]byte{}}}
	if !p.d.Dead() {
		must(t, "Format", err, api.OK)
		return true
	}
	if err != api.ErrDead || x != nil {
		t.Fatalf("%s: a pager %v, %v", p.told, x != nil, err)
	}
	return false
}

// P5.4: behind a Format that answered OK there is something to open, whatever is kept.
func TestBehindFormat(t *testing.T) {
	for _, p := range some(t) {
		for _, keep := range allKeeps(4) {
			q := p.again(t)
			q.p, q.m = mustFormat(t, q.d), newMind(64)
			q.crash(t, keep)
			q.rise(t)
		}
	}
}

// P5.6: a crash that kept a commit's end, or any other part of it: commits go on behind it,
// of each size, and a crash that keeps nothing, or all, of a further one is behind them.
// None of what was cut off comes back.
func TestNoneOfItComesBack(t *testing.T) {
	const pieces = 4
	for _, keep := range allKeeps(pieces) {
		for first := 1; first <= 4; first++ {
			for second := 1; second <= 4; second++ {
				p := begin(t, 64)
				for range 5 {
					p.do(t, call{kind: anAlloc})
				}
				p.do(t, call{kind: aCommit})
				cut(t, p, 3, pieces, keep)
				for i, size := range []int{first, second} {
					for n := range size {
						p.do(t, call{aWrite, 1 + n, 20*i + n})
					}
					p.do(t, call{kind: aCommit})
					p.do(t, call{kind: anOpen})
				}
				cut(t, p, 1, 2, []bool{false, true})
				p.do(t, call{kind: anOpen})
				cut(t, p, 3, pieces, keep)
			}
		}
	}
}

// cut writes some pages, and lets the disk die at the flush of their Commit, when so many
// pieces wait, keeping some of them.
func cut(t *testing.T, p *played, size, pieces int, keep []bool) {
	t.Helper()
	p.do(t, call{kind: aSettle})
	for n := range size {
		p.do(t, call{aWrite, 1 + n, 500 + n})
	}
	must(t, "disk.Fuse", p.d.Fuse(pieces, keep), api.OK)
	if p.do(t, call{kind: aCommit}) {
		t.Fatalf("%s: the fuse did not burn", p.told)
	}
	all := true
	for _, k := range keep {
		all = all && k
	}
	if !all || len(keep) < pieces {
		p.may = p.may[:1] // it is not whole, so that it may not be found
	}
	p.rise(t)
}

// P5.4, P5.5, P5.6: many long rows of drawn calls, with many crashes, in Opens too.
func TestLongRowsOfCrashes(t *testing.T) {
	t.Parallel()
	for seed := range 250 {
		r := row(seed)
		p := begin(t, []int{64, 65, 67, 72, 90}[seed%5])
		for range 15 {
			if r.next(2) == 0 {
				must(t, "disk.Fuse", p.d.Fuse(r.next(40), r.keeps(r.next(30))), api.OK)
			}
			for n := r.next(40); n > 0 && p.do(t, r.anyCall(p.m)); n-- {
			}
			if !p.d.Dead() {
				p.crash(t, r.keeps(p.d.Waits()))
			}
			for r.next(2) == 0 {
				q := *p
				q.d = mustReopen(t, p.d)
				must(t, "disk.Fuse", q.d.Fuse(r.next(12), r.keeps(r.next(12))), api.OK)
				if x, err := pager.Open(q.d); err == api.OK {
					q.p = x
					q.found(t)
					q.crash(t, r.keeps(q.d.Waits()))
				}
				p.d = q.d
			}
			p.rise(t)
		}
	}
}

// P5.6: opened again and again, the same is found, and nothing is written any more.
func TestOpenedAgainAndAgain(t *testing.T) {
	for _, p := range some(t) {
		eachCrash(t, p, []call{{anAlloc, 0, 0}, {aWrite, 1, 5}, {aCommit, 0, 0}}, func(q *played) {
			q.rise(t)
			done := q.d.Done()
			for range 3 {
				q.do(t, call{kind: anOpen})
			}
			if q.d.Done() != done {
				t.Fatalf("%s: Open wrote once more", q.told)
			}
			q.crash(t, nil)
			q.rise(t)
		})
	}
}

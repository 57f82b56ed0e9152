package ring_test

import (
	"testing"

	"buttery/api"
	"buttery/ring"
)

// eachCrash does the calls to a ring that stands as p, and crashes its disk, behind the
// last one and by a fuse at each Write and Flush, with every part of what waits kept. It
// hands over each ring that rose.
func eachCrash(t *testing.T, p *played, calls []int, then func(q *played)) {
	t.Helper()
	all := p.again(t)
	all.play(t, calls)
	for _, keep := range allKeeps(all.d.Waits()) {
		q := *all
		q.d = all.d.Copy()
		must(t, "Crash", q.d.Crash(keep), api.OK)
		q.rise(t)
		then(&q)
	}
	for k := range all.d.Done() - p.d.Done() {
		for _, keep := range allKeeps(waitAt(t, p, calls, k)) {
			q := p.again(t)
			must(t, "Fuse", q.d.Fuse(k, keep), api.OK)
			q.play(t, calls)
			if !q.d.Dead() {
				t.Fatalf("%s: the fuse of %d did not burn", q.told, k)
			}
			q.rise(t)
			then(q)
		}
	}
}

// waitAt tells how many writes wait when a fuse of k crashes the disk within the calls.
func waitAt(t *testing.T, p *played, calls []int, k int) int {
	t.Helper()
	q := p.again(t)
	must(t, "Fuse", q.d.Fuse(k, nil), api.OK)
	for _, call := range calls {
		waits, done := q.d.Waits(), q.d.Done()-p.d.Done()
		switch {
		case q.do(t, call):
		case call == aSync:
			return waits
		default:
			return waits + k - done + 1
		}
	}
	t.Fatalf("%s: the fuse of %d did not burn", q.told, k)
	return 0
}

// P4.5: all rows of four calls, with every crash.
func TestAllCrashes(t *testing.T) {
	for _, count := range []int{1, 2, 3, 4} {
		for _, calls := range allRows(4, 3, ring.Data+1, aSync, anEmpty) {
			eachCrash(t, begin(t, 1, count, 0), calls, func(*played) {})
		}
	}
}

// P4.5: and once more behind another crash, and one more behind that: from each ring that
// looks like none that rose.
func TestCrashesBehindCrashes(t *testing.T) {
	const count = 3
	level := []*played{begin(t, 0, count, 0)}
	seen := map[string]bool{}
	for _, n := range []int{3, 2, 2} {
		var next []*played
		for _, p := range level {
			for _, calls := range allRows(n, 3, ring.Data+1, aSync, anEmpty) {
				eachCrash(t, p, calls, func(q *played) {
					if s := q.sight(t); !seen[s] {
						seen[s] = true
						next = append(next, q)
					}
				})
			}
		}
		level = next
	}
	if len(seen) < 200 {
		t.Errorf("only %d rings rose", len(seen))
	}
}

// P4.5: what was told behind a crash lasts, without a Sync, behind another crash at once.
func TestCrashAtOnce(t *testing.T) {
	eachCrash(t, begin(t, 0, 4, 0), []int{3, aSync, ring.Data + 1, 3}, func(q *played) {
		l := q.records
		must(t, "Crash", q.d.Crash(nil), api.OK)
		q.rise(t)
		mustTell(t, q.told, q.records, l)
	})
}

// anyCall is a call to a ring of count sectors, most of them Appends.
func (r *row) anyCall(count int) int {
	switch r.next(8) {
	case 0:
		return anEmpty
	case 1, 2:
		return aSync
	case 3:
		return r.next(count*ring.Data + 2)
	case 4:
		return r.next(3) * ring.Data
	}
	return r.next(ring.Data + 40)
}

// P4.5: many long rows of calls, with many crashes, on greater rings.
func TestLongRowsOfCrashes(t *testing.T) {
	for seed := range 300 {
		x := row(seed)
		p := begin(t, x.next(3), x.next(12)+1, x.next(50))
		for range 12 {
			if x.next(2) == 0 {
				must(t, "Fuse", p.d.Fuse(x.next(12), x.keeps(x.next(20))), api.OK)
			}
			for n := x.next(12); n > 0 && p.do(t, x.anyCall(p.count)); n-- {
				p.mustBeWhole(t)
			}
			if !p.d.Dead() {
				must(t, "Crash", p.d.Crash(x.keeps(p.d.Waits())), api.OK)
			}
			p.rise(t)
		}
	}
}

// P4.5: a record that was cut by a crash is not there, though its beginning, or its end,
// was kept; and it does not come back when others are appended.
func TestTornRecord(t *testing.T) {
	for _, keep := range allKeeps(3) {
		p := begin(t, 0, 5, 0)
		p.play(t, []int{3, aSync})
		must(t, "Append", p.r.Append(make([]byte, 2*ring.Data+1)), api.OK)
		must(t, "Crash", p.d.Crash(keep), api.OK)
		d := mustReopen(t, p.d)
		r, l := mustOpen(t, d, 0, 5, 0)
		want := [][]byte{p.records[0]}
		if keep[0] && keep[1] && keep[2] {
			want = append(want, make([]byte, 2*ring.Data+1))
		}
		mustTell(t, "behind the crash", l, want)
		if torn := len(l) == 1 && (keep[0] || keep[1] || keep[2]); torn != (r.Append(nil) == api.ErrState) {
			t.Errorf("kept %v: torn: %v", keep, torn)
		}
		base := r.Empty()
		mustAppend(t, r, []byte("new"))
		_, l = mustOpen(t, d, 0, 5, base)
		mustTell(t, "behind another one", l, only([]byte("new")))
	}
}

// noted is a ring's top at some time, and how many records had been made by then.
type noted struct{ top, made int }

// mustNotComeBack asks that a ring that is opened with a top that it had tells none of the
// records that were made ahead of that.
func (p *played) mustNotComeBack(t *testing.T, l []noted) {
	t.Helper()
	for _, x := range l {
		_, told := mustOpen(t, p.d, p.first, p.count, x.top)
		old := map[string]bool{}
		for _, rec := range p.made[:x.made] {
			old[string(rec)] = true
		}
		for _, rec := range told {
			if old[string(rec)] {
				t.Fatalf("%s: with the base %d one of ahead of it: %s", p.told, x.top, short(only(rec)))
			}
		}
	}
}

// P4.6: a ring that is opened with a base that was its top at some time tells nothing of
// ahead of that; not behind crashes either.
func TestNeverAgain(t *testing.T) {
	for seed := range 200 {
		x := row(seed)
		p := begin(t, 0, x.next(8)+1, 0)
		var l []noted
		for range 60 {
			call := x.anyCall(p.count)
			if call >= 0 {
				call += 20 // so that no two records are the same
			}
			if x.next(10) == 0 {
				must(t, "Crash", p.d.Crash(x.keeps(p.d.Waits())), api.OK)
				p.rise(t)
			}
			p.do(t, call)
			l = append(l, noted{p.r.Top(), len(p.made)})
			if x.next(8) == 0 {
				p.mustNotComeBack(t, l)
			}
		}
		p.mustNotComeBack(t, l)
	}
}

// P4.6: the same of all short rows, with every crash: of the tops behind each call, of
// rings that were torn too.
func TestNeverAgainOfAllRows(t *testing.T) {
	for _, calls := range allRows(4, 20, ring.Data+20, aSync, anEmpty) {
		p := begin(t, 0, 3, 0)
		var l []noted
		for _, call := range calls {
			p.do(t, call)
			l = append(l, noted{p.r.Top(), len(p.made)})
		}
		for _, keep := range allKeeps(p.d.Waits()) {
			q := *p
			q.d = p.d.Copy()
			must(t, "Crash", q.d.Crash(keep), api.OK)
			q.rise(t)
			q.mustNotComeBack(t, append(l[:len(l):len(l)], noted{q.r.Top(), len(q.made)}))
			q.play(t, []int{20, ring.Data + 20})
			q.mustNotComeBack(t, l)
		}
	}
}

// P4.6: whatever lies in the sectors, nothing is told of a base that no sector's number is
// above.
func TestNothingOfAheadOfTheTop(t *testing.T) {
	for seed := range 2000 {
		x := row(seed)
		count := x.next(7) + 1
		d := mustDisk(t, count)
		for at := range count {
			mustPut(t, d, at, x.anySector(40, count, at))
		}
		r, _ := mustOpen(t, d, 0, count, 38)
		top := r.Top()
		r, l := mustOpen(t, d, 0, count, top)
		mustTell(t, "the base is the top", l, nil)
		mustStand(t, "the base is the top", r, state{top, top, top, count})
		mustAppend(t, r, []byte("new"))
		_, l = mustOpen(t, d, 0, count, top)
		mustTell(t, "behind Append", l, only([]byte("new")))
	}
}

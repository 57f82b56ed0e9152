package kv_test

import (
	"fmt"
	"testing"

	"buttery/api"
	"buttery/kv"
	"buttery/pager"
)

// roomy is a KV that has pairs, on a disk of n sectors; of its pages just so many are free (-1:
// all that it has not).
func roomy(t *testing.T, n int, base []kv.Change, free int) *kv.KV {
	t.Helper()
	d, k := mustCreate(t, n)
	for _, c := range base {
		mustApply(t, k, c)
	}
	if free < 0 {
		return k
	}
	p, err := pager.Open(d)
	must(t, "pager.Open", err, api.OK)
	mustTake(t, p, p.Free()-free)
	return mustOpen(t, "with some pages taken", d)
}

// asked is a batch, and what is there ahead of it.
type asked struct {
	base, batch []kv.Change
}

// batches are batches of each kind, of KVs of each kind.
func batches() []asked {
	var l []asked
	long := []kv.Change{put(1, "a", text(1, 8192)), put(1, "b", text(2, 481)), put(2, "a", text(3, 70))}
	for _, base := range [][]kv.Change{nil, {put(1, "a", "1")}, puts(1, 40, 40), long, append(puts(3, 40, 64), long...)} {
		for _, batch := range [][]kv.Change{
			{put(1, "a", "")}, {gone(1, "a")}, {gone(9, "none")}, {put(1, "a", text(4, 64))}, {put(1, "a", text(4, 65))},
			{put(1, "a", text(4, 8192))}, {put(0, "", text(4, 961)), put(255, "new", "2")}, {gone(1, "a"), put(1, "a", text(4, 8192))},
			{put(1, "a", text(4, 8192)), gone(1, "a")}, {put(1, "a", text(4, 600)), put(1, "a", text(5, 1200)), put(2, "a", "2")},
			puts(1, 7, 20), puts(4, 7, 66), {gone(1, "a"), gone(1, "b"), gone(2, "a")},
		} {
			l = append(l, asked{base, batch})
		}
	}
	return l
}

// P8.5: a batch is refused where one page fewer is free than it needs, and not where as many
// are; what is refused changes nothing.
func TestAsManyPagesAsItNeeds(t *testing.T) {
	for i, a := range batches() {
		what := fmt.Sprint("batch ", i)
		m := mind{}.with(a.base...)
		need := m.need(a.batch)
		n := 8 * max(need, 60) // such that there is room for the base, and Most is no less
		k := roomy(t, n, a.base, need-1)
		mustNeed(t, k, need, a.batch...)
		mustNotApply(t, k, api.ErrFull, a.batch...)
		mustFree(t, what, k, need-1)
		mustBe(t, what, k, m)

		k = roomy(t, n, a.base, need)
		mustNeed(t, k, need, a.batch...)
		mustApply(t, k, a.batch...)
		if k.Free() < 0 {
			t.Fatalf("%s: Free %d", what, k.Free())
		}
		mustBe(t, what, k, m.with(a.batch...))
	}
}

// P8.5: a batch is refused where Most is less than it needs, though there are pages enough, and
// not where it is as much.
func TestMostIsAsMuchAsItNeeds(t *testing.T) {
	done := 0
	for i, a := range batches() {
		what := fmt.Sprint("batch ", i)
		m := mind{}
		greatest := 24
		for _, c := range a.base {
			greatest = max(greatest, m.need([]kv.Change{c}))
			m = m.with(c)
		}
		need := m.need(a.batch)
		if greatest >= need && len(a.base) > 0 {
			continue // no such disk has room for the base
		}
		done++
		k := roomy(t, 8*need-1, a.base, -1)
		mustMost(t, k, need-1)
		mustNeed(t, k, need, a.batch...)
		free := k.Free()
		if free < need {
			t.Fatalf("%s: %d pages are free, it needs %d", what, free, need)
		}
		mustNotApply(t, k, api.ErrFull, a.batch...)
		mustFree(t, what, k, free)
		mustBe(t, what, k, m)

		k = roomy(t, 8*need, a.base, -1)
		mustMost(t, k, need)
		mustApply(t, k, a.batch...)
		mustBe(t, what, k, m.with(a.batch...))
	}
	if done < 25 {
		t.Fatalf("only %d batches were asked", done)
	}
}

// P8.5: a disk on which no batch has room, but for none.
func TestNoRoomAtAll(t *testing.T) {
	for _, n := range []int{64, 100, 191} {
		_, k := mustCreate(t, n)
		mustNotApply(t, k, api.ErrFull, put(1, "a", ""))
		mustNotApply(t, k, api.ErrFull, gone(1, "a"))
		mustNeed(t, k, 24, gone(1, "a"))
		mustApply(t, k)
		mustBe(t, "refused", k, mind{})
	}
	_, k := mustCreate(t, 192)
	mustApply(t, k, put(1, "a", text(1, 64)))
	mustNotApply(t, k, api.ErrFull, put(1, "b", text(1, 65)))
	mustNotApply(t, k, api.ErrFull, gone(1, "a"), gone(1, "b"))
	mustApply(t, k, gone(1, "a"))
	mustFree(t, "gone", k, 142)
}

// P8.5: the pages of an old value are not counted as free ahead of the new one.
func TestOldPagesAreNotFree(t *testing.T) {
	base := []kv.Change{put(1, "a", text(1, 8192))}
	k := roomy(t, 800, base, 24+36+36-1)
	mustNotApply(t, k, api.ErrFull, put(1, "a", text(2, 8192)))
	mustNotApply(t, k, api.ErrFull, gone(1, "a"), put(1, "b", text(2, 8192)))
	mustGet(t, k, 1, "a", text(1, 8192))
	mustApply(t, k, gone(1, "a"))
	mustFree(t, "gone", k, 95+19)
	mustApply(t, k, put(1, "b", text(2, 8192)))
	mustFree(t, "put", k, 95)
}

// P8.5: Apply takes no more pages than Need said, and where all pairs are gone as many pages are
// free as behind Create: disks that are filled till nothing has room any more, and emptied, in
// batches of drawn sizes.
func TestFilledAndEmptied(t *testing.T) {
	for seed, n := range []int{200, 300, 400, 700, 1000, 1500} {
		t.Run(fmt.Sprint(n), func(t *testing.T) {
			t.Parallel()
			r := row(seed)
			x := begin(t, n, "")
			first := x.k.Free()
			for round := range 2 {
				fill(t, x, &r, 60*round)
				mustBe(t, "full", x.k, x.m)
				x.free(t)
				empty(t, x, &r)
				mustBe(t, "empty", x.k, mind{})
				mustFree(t, "empty", x.k, first)
				x.k = mustOpen(t, "opened", x.d)
				mustFree(t, "opened", x.k, first)
			}
		})
	}
}

// fill puts pairs till fewer pages are free than so many, or there is no room even for a short
// one.
func fill(t *testing.T, x *played, r *row, till int) {
	t.Helper()
	for i := 0; x.k.Free() >= till; i++ {
		var l []kv.Change
		for j := range 1 + r.next(max(1, x.k.Most()/40)) {
			l = append(l, put(one(r, few()), fmt.Sprint(i, " ", j), text(i, one(r, []int{0, 9, 40, 64, 100, 600}))))
		}
		if !x.apply(t, l) && !x.apply(t, []kv.Change{put(one(r, few()), fmt.Sprint(i), "")}) {
			if x.k.Free() >= spare {
				t.Fatalf("%s: nothing has room, though %d pages are free", x.told, x.k.Free())
			}
			return
		}
	}
}

// empty lets all be gone. Where nothing has room any more nothing can go either: then the KV is
// made anew, with half of the pairs.
func empty(t *testing.T, x *played, r *row) {
	t.Helper()
	if x.k.Free() < spare {
		refill(t, x)
	}
	for l := x.m.allGone(); len(l) > 0; {
		n := min(len(l), 1+r.next(4))
		if !x.apply(t, l[:n]) {
			if n = 1; !x.apply(t, l[:n]) {
				t.Fatalf("%s: %s can't go: %d pages are free", x.told, shownBatch(l[:n]), x.k.Free())
			}
		}
		l = l[n:]
	}
}

// refill makes a KV anew, with half of its pairs.
func refill(t *testing.T, x *played) {
	t.Helper()
	old := x.m
	k, err := kv.Create(x.d)
	must(t, x.told+": Create", err, api.OK)
	x.k, x.m = k, mind{}
	for _, space := range few() {
		for i, p := range old.pairs(space, "", "") {
			if i%2 == 0 {
				x.apply(t, []kv.Change{put(space, p.Key, p.Value)})
			}
		}
	}
}

package kv_test

import (
	"fmt"
	"testing"

	"buttery/api"
	"buttery/disk"
	"buttery/kv"
	"buttery/pager"
)

// played is a KV on a disk, and the same in mind.
type played struct {
	d    *disk.Disk
	k    *kv.KV
	m    mind
	told string
}

// few are the spaces of drawn calls; some stand beside one another.
func few() []int { return []int{0, 1, 2, 17, 254, 255} }

// begin is a new one, on a disk of n sectors.
func begin(t *testing.T, n int, told string) *played {
	t.Helper()
	d, k := mustCreate(t, n)
	return &played{d: d, k: k, m: mind{}, told: told}
}

// free asks that just so many pages are free as another one finds that opens a copy of the disk.
func (x *played) free(t *testing.T) {
	t.Helper()
	p, err := pager.Open(x.d.Copy())
	must(t, x.told+": pager.Open", err, api.OK)
	mustFree(t, x.told, x.k, p.Free())
}

// apply applies a batch, and asks what it answers, and what is there then. It tells whether
// there was room.
func (x *played) apply(t *testing.T, l []kv.Change) bool {
	t.Helper()
	need, free, most, done := x.m.need(l), x.k.Free(), x.d.Len()/8, x.d.Done()
	mustNeed(t, x.k, need, l...)
	if len(l) > 0 && (need > free || need > most) {
		must(t, x.told+": Apply "+shownBatch(l), x.k.Apply(l), api.ErrFull)
		mustFree(t, x.told+": refused", x.k, free)
		if x.d.Done() != done {
			t.Fatalf("%s: it was refused, and wrote", x.told)
		}
		return false
	}
	must(t, x.told+": Apply "+shownBatch(l), x.k.Apply(l), api.OK)
	x.m = x.m.with(l...)
	if now := x.k.Free(); now < free-need {
		t.Fatalf("%s: %d pages were free, it needs %d, and %d are free", x.told, free, need, now)
	}
	return true
}

// refuse applies a batch that may not be: its last change.
func (x *played) refuse(t *testing.T, r *row, l []kv.Change) {
	t.Helper()
	l = append(l, one(r, []kv.Change{
		put(-1, "a", "b"), put(256, "a", "b"), gone(256, ""), put(1, text(1, 48), ""), gone(1, text(2, 48)),
		put(1, "a", text(3, 8193)), {Space: 1, Key: "a", Value: "b", Gone: true},
	}))
	free := x.k.Free()
	must(t, x.told+": Apply "+shownBatch(l), x.k.Apply(l), api.ErrArg)
	mustNotNeed(t, x.k, api.ErrArg, l...)
	mustFree(t, x.told+": refused", x.k, free)
}

// same asks that all is as in mind, in the spaces of drawn calls, and nothing in others.
func (x *played) same(t *testing.T, r *row) {
	t.Helper()
	if r.next(4) == 0 {
		x.free(t)
	}
	for _, space := range few() {
		mustBeIn(t, x.told, x.k, x.m, space)
	}
	mustBeIn(t, x.told, x.k, x.m, r.next(spaces))
}

// keyOf draws keys of a kind: few short ones, long ones that begin alike, and all lengths.
func (r *row) keyOf(kind int) string {
	switch n := r.next(60); kind {
	case 0:
		return text(n, r.next(3))
	case 1:
		return text(7, maxName-1) + string([]byte{byte(n * 4)})
	default:
		return text(n, n%(maxName+1))
	}
}

// batch draws a batch of few changes, or of none; in it some keys come more than once.
func (r *row) batch(kind int) []kv.Change {
	var l []kv.Change
	for range r.next(9) {
		c := put(one(r, few()), r.keyOf(kind), text(r.next(100), one(r, []int{0, 5, 30, 64})))
		switch r.next(6) {
		case 0:
			c.Value = text(r.next(100), one(r, sizes()))
		case 1, 2:
			c.Value, c.Gone = "", true
		}
		if len(l) > 0 && r.next(4) == 0 {
			old := one(r, l)
			c.Space, c.Key = old.Space, old.Key
		}
		l = append(l, c)
	}
	return l
}

// call does one drawn call.
func (x *played) call(t *testing.T, r *row, kind int) {
	t.Helper()
	space, key := one(r, few()), r.keyOf(kind)
	switch at := r.next(20); {
	case at < 9:
		x.apply(t, r.batch(kind))
	case at < 10:
		x.refuse(t, r, r.batch(kind))
	case at < 14:
		if v, ok := x.m[place{space, key}]; ok {
			mustGet(t, x.k, space, key, v)
		} else {
			mustNotGet(t, x.k, space, key, api.OK)
		}
	case at < 18:
		to := one(r, []string{"", key, key + "\x00", r.keyOf(kind), r.keyOf(kind)})
		if len(to) > maxName {
			to = ""
		}
		mustRange(t, x.k, space, key, to, x.m.pairs(space, key, to)...)
	case at < 19:
		x.k = mustOpen(t, x.told, x.d)
	default:
		x.d = mustCrash(t, x.d, r.keeps(r.next(8))...)
		x.k = mustOpen(t, x.told, x.d)
	}
}

// P8.3: long rows of drawn calls, on disks of unlike sizes, with keys of all kinds: all answers
// are those in mind; what is refused changes nothing.
func TestLongRowsAsInMind(t *testing.T) {
	for seed := range 24 {
		t.Run(fmt.Sprint(seed), func(t *testing.T) {
			t.Parallel()
			r := row(seed)
			x := begin(t, []int{200, 300, 500, 1000, 2000, 3000}[seed%6], "")
			for i := range 300 {
				x.told = fmt.Sprint("seed ", seed, " call ", i)
				x.call(t, &r, seed/6)
				x.same(t, &r)
			}
			x.k = mustOpen(t, "at last", x.d)
			mustBe(t, "at last", x.k, x.m)
		})
	}
}

// P8.3: spaces do not see one another: the same keys in all of them, each changed by itself.
func TestSpacesDoNotSeeOneAnother(t *testing.T) {
	_, k := mustCreate(t, 4000)
	m := mind{}
	keys := []string{"", "\x00", "a", "\xff\xff", text(1, maxName)}
	for space := range spaces {
		var l []kv.Change
		for i, key := range keys {
			l = append(l, put(space, key, fmt.Sprint(space, " ", i)))
		}
		mustApply(t, k, l...)
		m = m.with(l...)
	}
	mustBe(t, "all", k, m)
	for i := range spaces {
		space := i * 77 % spaces
		l := []kv.Change{gone(space, keys[i%5]), put(space, keys[(i+1)%5], text(i, 90))}
		mustApply(t, k, l...)
		m = m.with(l...)
		mustBeIn(t, "changed", k, m, (space+1)%spaces)
		mustBeIn(t, "changed", k, m, space)
		mustBeIn(t, "changed", k, m, (space+spaces-1)%spaces)
	}
	mustBe(t, "changed", k, m)
}

// P8.3: a batch in two halves does what the whole does, wherever it is parted.
func TestHalves(t *testing.T) {
	for seed := range 40 {
		t.Run(fmt.Sprint(seed), func(t *testing.T) {
			t.Parallel()
			r := row(seed)
			x := begin(t, 8000, "")
			for range 6 {
				x.apply(t, r.batch(seed%3))
			}
			l := append(r.batch(seed%3), r.batch(seed%3)...)
			for i := range len(l) + 1 {
				half := mustOpen(t, "half", x.d.Copy())
				first, err := half.Need(l[:i])
				must(t, "Need", err, api.OK)
				mustApply(t, half, l[:i]...)
				mustBe(t, "half", half, x.m.with(l[:i]...))
				mustNeed(t, half, x.m.need(l)-first, l[i:]...)
				mustApply(t, half, l[i:]...)
				mustBe(t, "both halves", half, x.m.with(l...))
			}
			mustNeed(t, x.k, x.m.need(l), l...)
			mustApply(t, x.k, l...)
			mustBe(t, "the whole", x.k, x.m.with(l...))
		})
	}
}

// P8.3: what is refused changes nothing, also where only the last change of a batch is refused,
// and the others would be done.
func TestRefusedChangesNothing(t *testing.T) {
	d, k := mustCreate(t, 424)
	mustMost(t, k, 53)
	before := []kv.Change{put(1, "a", text(1, 600)), put(2, "b", "2")}
	mustApply(t, k, before...)
	m, free, done := mind{}.with(before...), k.Free(), d.Done()
	others := []kv.Change{gone(1, "a")}
	for want, last := range map[api.Errno][]kv.Change{
		api.ErrArg:  {put(256, "a", "x"), put(1, text(1, 48), "x"), put(1, "c", text(1, 8193)), {Space: 2, Key: "b", Value: "x", Gone: true}},
		api.ErrFull: {put(1, "c", text(2, 8192)), put(1, "a", text(2, 961)), put(9, "c", text(3, 65))},
	} {
		for _, c := range last {
			mustNotApply(t, k, want, append(others, c)...)
			mustBe(t, "refused", k, m)
			mustFree(t, "refused", k, free)
			mustBe(t, "refused, and opened", mustOpen(t, "refused", d.Copy()), m)
		}
	}
	if d.Done() != done {
		t.Fatal("what was refused was written")
	}
	mustApply(t, k, put(3, "c", "3")) // nothing of what was refused comes with it
	mustBe(t, "applied", k, m.with(put(3, "c", "3")))
	mustBe(t, "opened", mustOpen(t, "opened", d), m.with(put(3, "c", "3")))
}

package kv_test

import (
	"fmt"
	"slices"
	"testing"

	"buttery/api"
	"buttery/disk"
	"buttery/kv"
)

// some are the spaces in which crashed KVs have pairs, and two in which they have none.
func some() []int { return []int{0, 1, 2, 3, 9, 255} }

// standing is a disk with a KV.
type standing struct {
	told string
	d    *disk.Disk
	m    mind
}

// run applies a batch on a copy of the disk, with a fuse.
func (s standing) run(t *testing.T, batch []kv.Change, fuse int, keep []bool) (*disk.Disk, api.Errno) {
	t.Helper()
	d := s.d.Copy()
	k := mustOpen(t, s.told, d)
	must(t, "disk.Fuse", d.Fuse(fuse, keep), api.OK)
	return d, k.Apply(batch)
}

// steps are how many writes and flushes a batch takes.
func (s standing) steps(t *testing.T, batch []kv.Change) int {
	t.Helper()
	d, err := s.run(t, batch, 1<<20, nil)
	must(t, s.told+": Apply "+shownBatch(batch), err, api.OK)
	return d.Done() - s.d.Done()
}

// standings are disks with KVs of each kind: without pairs, with few, with many, with long
// values; and one of those whose next batch finds no room in the log.
func standings(t *testing.T) []standing {
	t.Helper()
	var l []standing
	for _, many := range []int{0, 1, 5, 30, 90} {
		s := standing{told: fmt.Sprint(many, " pairs"), m: mind{}}
		var k *kv.KV
		s.d, k = mustCreate(t, 700)
		for i := range many {
			c := put(i*i%4, fmt.Sprint("k", i), text(i, []int{0, 64, 30, 10, 600}[i%5]))
			mustApply(t, k, c)
			s.m = s.m.with(c)
		}
		l = append(l, s)
	}
	return append(l, fullLog(t, l[3]))
}

// fullLog is one whose next batch finds no room in the log, so that what the log has is laid
// into its places first.
func fullLog(t *testing.T, s standing) standing {
	t.Helper()
	batch := []kv.Change{put(1, "k1", "1")}
	few := s.steps(t, batch)
	k := mustOpen(t, s.told, s.d.Copy())
	d := s.d.Copy()
	k = mustOpen(t, s.told, d)
	for i := range 200 {
		full := standing{told: s.told + ", a full log", d: d, m: s.m}
		if full.steps(t, batch) > few+10 {
			return full
		}
		c := put(i%4, fmt.Sprint("k", i%30), text(i, 40))
		mustApply(t, k, c)
		s.m = s.m.with(c)
	}
	t.Fatal("the log is never full")
	return s
}

// changesOf are batches of each kind.
func changesOf(s standing) map[string][]kv.Change {
	all := s.m.allGone()
	return map[string][]kv.Change{
		"a new pair":     {put(1, "new", "1")},
		"a long value":   {put(0, "k0", text(99, 700))},
		"gone":           {gone(0, "k0")},
		"in all spaces":  {put(0, "x", "1"), put(1, "x", "2"), put(2, "x", text(98, 100))},
		"the same key":   {put(1, "k1", text(97, 70)), gone(1, "k1"), put(1, "k1", "again")},
		"put and gone":   {put(0, "a", text(96, 300)), gone(0, "a")},
		"one for others": {gone(0, "k0"), put(255, "k0", "moved"), gone(1, "k1")},
		"three are gone": all[:min(3, len(all))],
	}
}

// keepsOf are lists of n truth values of every kind: all, if n is small; else beginnings, each
// alone false, and drawn ones.
func keepsOf(n int) [][]bool {
	var l [][]bool
	if n <= 3 {
		for i := range 1 << n {
			var keep []bool
			for j := range n {
				keep = append(keep, i>>j&1 == 1)
			}
			l = append(l, keep)
		}
		return l
	}
	for i := range n + 1 {
		l = append(l, slices.Concat(slices.Repeat([]bool{true}, i), slices.Repeat([]bool{false}, n-i)))
	}
	r := row(n)
	for i := 0; i < n; i += 1 + n/6 {
		keep := slices.Repeat([]bool{true}, n)
		keep[i] = false
		l = append(l, keep, r.keeps(n))
	}
	return l
}

// keepsOfAll are some lists of n truth values that say something of each: all true, but for the
// last one, the last one alone, and drawn ones.
func keepsOfAll(n int) [][]bool {
	all := slices.Repeat([]bool{true}, n)
	last := make([]bool, n)
	last[n-1] = true
	r := row(n)
	return [][]bool{all, all[:n-1], last, r.keeps(n), r.keeps(n)}
}

// goOn asks that a KV that was found goes on from there: a batch is done, and lasts.
func goOn(t *testing.T, what string, d *disk.Disk, k *kv.KV, m mind) {
	t.Helper()
	l := []kv.Change{put(3, "on", text(1, 100)), gone(0, "k0"), put(1, "k1", "on")}
	mustApply(t, k, l...)
	if m = m.with(l...); !is(t, what, k, m, some()...) {
		t.Fatalf("%s: it does not go on", what)
	}
	if k = mustOpen(t, what, mustCrash(t, d)); !is(t, what, k, m, some()...) {
		t.Fatalf("%s: what was done since is lost", what)
	}
}

// P8.4: a crash at each write and flush of an Apply, with every kind of keep: what is opened is
// as it was behind the last Apply, or as the one under way leaves it, whole; and goes on.
func TestCrashesOfApply(t *testing.T) {
	for _, s := range standings(t) {
		for what, batch := range changesOf(s) {
			t.Run(s.told+", "+what, func(t *testing.T) {
				t.Parallel()
				s.each(t, batch)
			})
		}
	}
}

// each crashes an Apply everywhere.
func (s standing) each(t *testing.T, batch []kv.Change) {
	t.Helper()
	behind, found := s.m.with(batch...), [2]int{}
	steps, first := s.steps(t, batch), 5
	if steps > 20 {
		first = 1
	}
	for fuse := range steps {
		for _, keep := range append(keepsOf(min(fuse+1, first)), keepsOfAll(fuse+1)...) {
			what := fmt.Sprint(s.told, ", crashed at ", fuse, ", kept ", keep)
			d, err := s.run(t, batch, fuse, keep)
			must(t, what, err, api.ErrDead)
			d = mustReopen(t, d)
			k := mustOpen(t, what, d)
			switch {
			case is(t, what, k, s.m, some()...):
				found[0]++
				goOn(t, what, d, k, s.m)
			case is(t, what, k, behind, some()...):
				found[1]++
				goOn(t, what, d, k, behind)
			default:
				t.Fatalf("%s: neither what was there, nor what was to be", what)
			}
		}
	}
	for _, keep := range keepsOf(3) { // behind it
		d, err := s.run(t, batch, 1<<20, nil)
		must(t, s.told, err, api.OK)
		d = mustCrash(t, d, keep...)
		k := mustOpen(t, s.told, d)
		if !is(t, s.told, k, behind, some()...) {
			t.Fatalf("%s: what was told is lost", s.told)
		}
		goOn(t, s.told, d, k, behind)
	}
	if changed := !is(t, s.told, mustOpen(t, s.told, s.d.Copy()), behind, some()...); changed && (found[0] == 0 || found[1] == 0) {
		t.Errorf("%s: %d times it was there, %d times not", s.told, found[1], found[0])
	}
}

// P8.4: a crash at each write and flush of a Create, with every kind of keep: there is what was
// there, or a KV without pairs; where nothing was there, there may be nothing yet.
func TestCrashesOfCreate(t *testing.T) {
	blank, other := mustDisk(t, 700), mustDisk(t, 700)
	junk(t, other, 1)
	l := append(standings(t), standing{told: "nothing", d: blank}, standing{told: "something else", d: other})
	for _, s := range l {
		all := s.d.Copy()
		_, err := kv.Create(all)
		must(t, s.told+": Create", err, api.OK)
		for fuse := range all.Done() - s.d.Done() {
			for _, keep := range keepsOf(min(fuse+1, 10)) {
				what := fmt.Sprint(s.told, ", crashed at ", fuse, ", kept ", keep)
				d := s.d.Copy()
				must(t, "disk.Fuse", d.Fuse(fuse, keep), api.OK)
				k, err := kv.Create(d)
				mustNotOpen(t, what, k, err, api.ErrDead)
				s.behindCreate(t, what, mustReopen(t, d))
			}
		}
		s.behindCreate(t, s.told, mustCrash(t, all))
	}
}

// behindCreate asks for what is there behind a Create that was cut off, or not.
func (s standing) behindCreate(t *testing.T, what string, d *disk.Disk) {
	t.Helper()
	k, err := kv.Open(d)
	m := mind{}
	switch {
	case s.m == nil && err == api.ErrForm:
		mustNotOpen(t, what, k, err, api.ErrForm)
		k, err = kv.Create(d)
		must(t, what+": Create", err, api.OK)
	case err != api.OK:
		t.Fatalf("%s: Open: %v", what, err)
	case is(t, what, k, mind{}, some()...):
		mustFree(t, what, k, 700-1-175-1)
	case is(t, what, k, s.m, some()...):
		m = s.m
	default:
		t.Fatalf("%s: neither what was there, nor nothing", what)
	}
	goOn(t, what, d, k, m)
}

// P8.4: what an Apply answers that the disk cuts off, and what is told behind it: nothing, till
// what lasts is opened.
func TestDeadBehindApply(t *testing.T) {
	s := standings(t)[2]
	for fuse := range 2 {
		d := s.d.Copy()
		k := mustOpen(t, s.told, d)
		free := k.Free()
		must(t, "disk.Fuse", d.Fuse(fuse, []bool{true, true, true, true}), api.OK)
		mustNotApply(t, k, api.ErrDead, put(0, "k0", text(1, 600)), put(0, "new", "1"))
		mustNotGet(t, k, 0, "k0", api.ErrDead)
		mustNotRange(t, k, 0, "", "", api.ErrDead)
		mustNotApply(t, k, api.ErrDead, put(0, "k0", "1"))
		mustNotNeed(t, k, api.ErrDead, put(0, "k0", "1"))
		mustFree(t, "dead", k, free)
		k, err := kv.Open(d)
		mustNotOpen(t, "dead", k, err, api.ErrDead)
	}
}

// P8.4: many crashes, one behind the other, in Apply and in Open, wherever: drawn calls.
func TestLongRowsOfCrashes(t *testing.T) {
	for seed := range 24 {
		t.Run(fmt.Sprint(seed), func(t *testing.T) {
			t.Parallel()
			r := row(seed)
			d, _ := mustCreate(t, []int{400, 700, 1200}[seed%3])
			m := mind{}
			for life := range 40 {
				what := fmt.Sprint("life ", life)
				d, m = live(t, what, d, m, &r, seed/3%3)
			}
		})
	}
}

// live opens a KV and applies drawn batches till the disk dies; it tells what lasts of it, and
// what is there then. Where the disk dies when it is opened, what was there is there yet.
func live(t *testing.T, what string, d *disk.Disk, m mind, r *row, kind int) (*disk.Disk, mind) {
	t.Helper()
	must(t, "disk.Fuse", d.Fuse(r.next([]int{3, 30, 100}[r.next(3)]), r.keeps(r.next(30))), api.OK)
	k, err := kv.Open(d)
	now := m
	if err == api.OK {
		for range r.next(30) {
			l := r.batch(kind)
			now = m.with(l...)
			err = k.Apply(l)
			if err == api.ErrDead {
				break
			}
			if err == api.ErrFull {
				now = m
			} else {
				must(t, what+": Apply", err, api.OK)
			}
			m = now
		}
	}
	if err != api.ErrDead {
		must(t, "disk.Crash", d.Crash(r.keeps(d.Waits())), api.OK)
	}
	d = mustReopen(t, d)
	c := d.Copy() // the one that is opened here does not disturb the next life
	k = mustOpen(t, what, c)
	switch {
	case is(t, what, k, m, few()...):
	case is(t, what, k, now, few()...):
		m = now
	default:
		t.Fatalf("%s: neither what was there, nor what was to be", what)
	}
	return d, m
}

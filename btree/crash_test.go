package btree_test

import (
	"fmt"
	"maps"
	"slices"
	"testing"

	"buttery/api"
	"buttery/btree"
	"buttery/disk"
)

// crashed is a disk with a tree, and what is done to it ahead of a Commit.
type crashed struct {
	told string
	d    *disk.Disk
	kept mind
	do   func(t *testing.T, tree *btree.Tree, m mind)
}

// committed are disks with trees of each kind that are committed: none, one leaf, some levels,
// long values, and a ring that is nearly full.
func committed(t *testing.T) []crashed {
	t.Helper()
	var l []crashed
	for _, many := range []int{0, 1, 5, 25, 60} {
		for _, settled := range []bool{true, false} {
			d, p := mustFormat(t, 160)
			m := pairs(many, 20, 60, 64, 0, 64, 100, 490)
			if many > 25 { // there is no room for so many long ones
				m = pairs(many, 20, 60, 64, 0)
			}
			m.fill(t, btree.New(p))
			if settled {
				must(t, "Settle", p.Settle(), api.OK)
			}
			l = append(l, crashed{told: fmt.Sprint(many, " pairs, settled ", settled), d: d, kept: m})
		}
	}
	return l
}

// run does what is to be done on a copy of the disk, with a fuse, and commits. It tells the
// disk, what was to be there then, and what Commit answered.
func (c crashed) run(t *testing.T, k int, keep []bool) (*disk.Disk, mind, api.Errno) {
	t.Helper()
	d := c.d.Copy()
	tree, now := btree.New(mustOpen(t, c.told, d)), maps.Clone(c.kept)
	c.do(t, tree, now)
	must(t, "disk.Fuse", d.Fuse(k, keep), api.OK)
	return d, now, tree.Commit()
}

// found is what is found on a disk that is dead, all of which is sound.
func found(t *testing.T, what string, d *disk.Disk) []btree.Cell {
	t.Helper()
	p := mustOpen(t, what, mustReopen(t, d))
	s := shapeOf(t, what, p, 0)
	l, err := btree.New(p).Range("", "")
	must(t, what+": Range", err, api.OK)
	if !slices.Equal(l, s.cells) {
		t.Fatalf("%s: %s, want %s", what, shownCells(l), shownCells(s.cells))
	}
	return l
}

// keepsOf are lists of n truth values of every kind: all, if n is small; else none, all, each
// alone true and false, beginnings, and drawn ones.
func keepsOf(n int) [][]bool {
	var l [][]bool
	if n <= 3 {
		for i := range 1 << n {
			var keep []bool
			for j := range n {
				keep = append(keep, i>>j&1 == 1)
			}
			l = append(l, keep)
		}
		return l
	}
	for i := range n + 1 {
		l = append(l, slices.Concat(slices.Repeat([]bool{true}, i), slices.Repeat([]bool{false}, n-i)))
	}
	r := row(n)
	for i := 0; i < n; i += 1 + n/6 {
		keep := slices.Repeat([]bool{true}, n)
		keep[i] = false
		l = append(l, keep, r.keeps(n))
	}
	return l
}

// P7.4: a crash at each write and flush of a Commit, and behind it, with every kind of keep: the
// tree of what is opened is that of the last Commit, or of the one under way, whole.
func TestCrashesOfCommit(t *testing.T) {
	for _, c := range committed(t) {
		for what, do := range changes() {
			c := c
			c.told += ", " + what
			c.do = do
			t.Run(c.told, func(t *testing.T) {
				t.Parallel()
				c.each(t)
			})
		}
	}
}

// each crashes it everywhere.
func (c crashed) each(t *testing.T) {
	t.Helper()
	all, now, err := c.run(t, 1<<20, nil)
	must(t, c.told+": Commit", err, api.OK)
	before, behind := c.kept.cells("", ""), now.cells("", "")
	for k := range all.Done() - c.d.Done() {
		for _, keep := range keepsOf(min(k+1, 12)) {
			what := fmt.Sprint(c.told, ", crashed at ", k, ", kept ", keep)
			d, _, err := c.run(t, k, keep)
			must(t, what, err, api.ErrDead)
			if l := found(t, what, d); !slices.Equal(l, before) && !slices.Equal(l, behind) {
				t.Fatalf("%s: %s, want %s or %s", what, shownCells(l), shownCells(before), shownCells(behind))
			}
		}
	}
	for _, keep := range keepsOf(min(all.Waits(), 4)) {
		d := all.Copy()
		must(t, "Crash", d.Crash(keep), api.OK)
		if l := found(t, c.told, d); !slices.Equal(l, behind) {
			t.Fatalf("%s, behind it: %s, want %s", c.told, shownCells(l), shownCells(behind))
		}
	}
}

// P7.4: what was not committed is gone behind a crash, wherever it comes; and what was, is there:
// drawn calls with many crashes.
func TestLongRowsOfCrashes(t *testing.T) {
	for seed := range 24 {
		t.Run(fmt.Sprint(seed), func(t *testing.T) {
			t.Parallel()
			r := row(seed)
			d, p := mustFormat(t, []int{64, 130, 300}[seed%3])
			x := play(p, mind{}, "")
			for i := range 30 {
				x.told = fmt.Sprint("life ", i)
				must(t, "disk.Fuse", d.Fuse(r.next(60), r.keeps(r.next(40))), api.OK)
				for range r.next(40) {
					x.crashCall(t, d, &r, seed/6)
					if d.Dead() {
						break
					}
				}
				if !d.Dead() {
					x.now = maps.Clone(x.kept)
					must(t, "Crash", d.Crash(r.keeps(d.Waits())), api.OK)
				}
				l := found(t, x.told, d)
				if !slices.Equal(l, x.kept.cells("", "")) && !slices.Equal(l, x.now.cells("", "")) {
					t.Fatalf("%s: %s, want %s or %s", x.told, shownCells(l), shownCells(x.kept.cells("", "")), shownCells(x.now.cells("", "")))
				}
				m := mind{}
				for _, c := range l {
					m[c.Key] = c.Value
				}
				d = mustReopen(t, d)
				x = play(mustOpen(t, x.told, d), m, "")
			}
		})
	}
}

// crashCall does one drawn call, in which the disk may die.
func (x *played) crashCall(t *testing.T, d *disk.Disk, r *row, kind int) {
	t.Helper()
	if r.next(4) > 0 {
		if key := r.keyOf(kind); r.next(3) > 0 {
			x.put(t, key, text(r.next(100), one(r, []int{0, 9, 64, 64, 65, 600})))
		} else {
			x.del(t, x.now.one(r))
		}
		return
	}
	switch err := x.tree.Commit(); {
	case err == api.OK:
		x.kept = maps.Clone(x.now)
	case d.Dead():
		must(t, x.told+": Commit", err, api.ErrDead)
	default:
		must(t, x.told+": Commit", err, api.ErrFull)
		x.abort(t)
	}
}

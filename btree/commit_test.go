package btree_test

import (
	"fmt"
	"maps"
	"testing"

	"buttery/api"
	"buttery/btree"
)

// changes are changes of each kind of a tree that has some of pairs(.., 20, ..).
func changes() map[string]func(t *testing.T, tree *btree.Tree, m mind) {
	put := func(t *testing.T, tree *btree.Tree, m mind, key, value string) {
		t.Helper()
		mustPut(t, tree, key, value)
		m[key] = value
	}
	del := func(t *testing.T, tree *btree.Tree, m mind, key string) {
		t.Helper()
		_, had := m[key]
		mustDel(t, tree, key, had)
		delete(m, key)
	}
	return map[string]func(t *testing.T, tree *btree.Tree, m mind){
		"none":         func(*testing.T, *btree.Tree, mind) {},
		"none is gone": func(t *testing.T, tree *btree.Tree, m mind) { del(t, tree, m, "none") },
		"a new pair":   func(t *testing.T, tree *btree.Tree, m mind) { put(t, tree, m, "new", "1") },
		"the same":     func(t *testing.T, tree *btree.Tree, m mind) { put(t, tree, m, numbered(0, 20), m[numbered(0, 20)]) },
		"a new value":  func(t *testing.T, tree *btree.Tree, m mind) { put(t, tree, m, numbered(256, 20), text(999, 40)) },
		"a long value": func(t *testing.T, tree *btree.Tree, m mind) { put(t, tree, m, numbered(512, 20), text(999, 1500)) },
		"short again": func(t *testing.T, tree *btree.Tree, m mind) {
			put(t, tree, m, "x", text(998, 1000))
			put(t, tree, m, "x", "")
		},
		"there and gone": func(t *testing.T, tree *btree.Tree, m mind) {
			put(t, tree, m, "x", text(997, 700))
			del(t, tree, m, "x")
		},
		"a pair is gone": func(t *testing.T, tree *btree.Tree, m mind) { del(t, tree, m, numbered(0, 20)) },
		"some are gone": func(t *testing.T, tree *btree.Tree, m mind) {
			for i := range 12 {
				del(t, tree, m, numbered(256*(i+3), 20))
			}
		},
		"nodes are cut": func(t *testing.T, tree *btree.Tree, m mind) {
			for i := range 12 {
				put(t, tree, m, numbered(700+i, 48), text(i, 64))
			}
		},
	}
}

// P7.2: Commit and Abort behind every kind of change, also of none; what was committed is found
// again, and what was not is not.
func TestCommitAndAbort(t *testing.T) {
	for _, many := range []int{1, 20, 60} {
		for what, change := range changes() {
			d, p := mustFormat(t, 700)
			tree, kept := btree.New(p), pairs(many, 20, 10, 100, 64, 600)
			kept.fill(t, tree)
			was := places(t, what, p)
			change(t, tree, maps.Clone(kept))
			must(t, what+": Abort", tree.Abort(), api.OK)
			mustFree(t, what+": Abort", tree, 523-(len(was)-1))
			mustBe(t, what+": Abort", p, kept)
			if n := unlike(was, places(t, what, p)); n != 0 {
				t.Fatalf("%s: behind Abort %d pages are others", what, n)
			}
			mustRange(t, tree, "", "", kept.cells("", ""))
			for key, value := range kept {
				mustGet(t, tree, key, value)
			}
			mustBe(t, what+": and opened", mustOpen(t, what, d.Copy()), kept)

			now := maps.Clone(kept)
			change(t, tree, now)
			mustBe(t, what+": changed", p, now)
			mustBe(t, what+": and not committed", mustOpen(t, what, d.Copy()), kept)
			must(t, what+": Commit", tree.Commit(), api.OK)
			mustBe(t, what+": Commit", p, now)
			must(t, what+": Abort", tree.Abort(), api.OK)
			mustBe(t, what+": Abort behind it", p, now)
			must(t, what+": Crash", d.Crash(nil), api.OK)
			q := mustOpen(t, what, mustReopen(t, d))
			mustBe(t, what+": and opened", q, now)
			mustRange(t, btree.New(q), "", "", now.cells("", ""))
		}
	}
}

// P7.2: a Commit that the pager refuses lets the change be as it is.
func TestCommitIsRefused(t *testing.T) {
	d, p := mustFormat(t, 64)
	tree := btree.New(p)
	mustPut(t, tree, "k", "v")
	must(t, "Commit", tree.Commit(), api.OK)
	mustPut(t, tree, "l", text(1, 8192))
	must(t, "Commit", tree.Commit(), api.ErrFull)
	mustGet(t, tree, "l", text(1, 8192))
	mustBe(t, "refused", p, mind{"k": "v", "l": text(1, 8192)})
	must(t, "Abort", tree.Abort(), api.OK)
	mustNotGet(t, tree, "l", api.OK)
	mustBe(t, "Abort", p, mind{"k": "v"})
	mustPut(t, tree, "l", "w")
	must(t, "Crash", d.Crash(nil), api.OK)
	must(t, "Commit", tree.Commit(), api.ErrDead)
}

// P7.2, P7.5: a Put or a Del takes, writes and drops at most Spare pages, and two for each long
// page of the old and the new value: over drawn calls, of trees whose nodes are as small and as
// great as they may be.
func TestFewPagesAreChanged(t *testing.T) {
	fills := []fill{small, great, firstGreat, firstSmall}
	for i := range 8 {
		for j, b := range []between{shortest, longest, itself} {
			t.Run(fmt.Sprint(i, j), func(t *testing.T) {
				t.Parallel()
				r := row(10*i + j)
				f := drawn(10*i + j)
				if i < len(fills) {
					f = fills[i]
				}
				_, p := mustFormat(t, 1000)
				m := pairs(150, 30+9*j, 14, 64, 0, 100)
				layTree(t, p, m, f, b)
				x := play(p, m, "")
				for n := range 100 {
					x.told = fmt.Sprint("call ", n)
					x.edit(t, r.anyEdit(x.now, 30+9*j))
				}
			})
		}
	}
}

// anyEdit draws a Put or a Del, of a key that is there, or beside one of pairs(.., n, ..).
func (r *row) anyEdit(m mind, n int) edit {
	e := edit{key: m.one(r), gone: r.next(2) == 0}
	if r.next(2) == 0 {
		e.key = numbered(r.next(150)*256+r.next(3), n+r.next(maxKey-n+1))
	}
	if !e.gone {
		e.value = text(r.next(100), one(r, []int{0, 0, 10, 63, 64, 64, 65, 500}))
	}
	return e
}

// P7.2, P7.5: a Put that cuts each node on the way up, in a tree of as many levels as that can
// be in: of one level more no disk has pages enough.
func TestCutUpToTheRoot(t *testing.T) {
	t.Parallel()
	const size = 46 // of keys such that a branch has room for 11 kids, wherever these stand
	for levels, leaves := 1, 1; levels <= 7; levels, leaves = levels+1, 11+4*(leaves-1) {
		_, p := mustFormat(t, api.MaxSectors)
		m := pairs(8+2*(leaves-1), size, 14)
		if got := layTree(t, p, m, firstGreat, itself); got != levels {
			t.Fatalf("%d leaves: %d levels, want %d", leaves, got, levels)
		}
		c := play(p, m, "cut").edit(t, edit{key: numbered(1, size), value: text(1, 64)})
		if want := (counts{most: 2*levels + 1, up: 1, grown: levels + 1}); c != want {
			t.Errorf("%d levels: %+v, want %+v", levels, c, want)
		}
	}
}

// P7.2, P7.5: a Del that joins each node on the way up with the one beside it, and so does a Put
// of a value that is shorter: at the first key, at the last one, and between.
func TestJoinedUpToTheRoot(t *testing.T) {
	t.Parallel()
	for levels, leaves := 2, 2; levels <= 7; levels, leaves = levels+1, 4*leaves {
		for _, gone := range []bool{true, false} {
			for _, at := range []int{0, 1, leaves, 2*leaves - 1} {
				_, p := mustFormat(t, 9000)
				m := pairs(2*leaves, maxKey, 13)
				if got := layTree(t, p, m, small, itself); got != levels {
					t.Fatalf("%d leaves: %d levels, want %d", leaves, got, levels)
				}
				c := play(p, m, "join").edit(t, edit{key: numbered(at*256, maxKey), gone: gone})
				want := counts{most: 2*levels - 1, down: 1, shrunk: levels}
				if !gone {
					want.joinedByPut = 1
				}
				if c != want {
					t.Errorf("%d levels: %+v, want %+v", levels, c, want)
				}
			}
		}
	}
}

// P7.2, P7.5: a Del behind which two leaves are parted anew, by a longer key than before, so that
// the nodes above are cut, and there may be a level more.
func TestCutByDel(t *testing.T) {
	t.Parallel()
	firstLeafSmall := func(level, at int) int {
		if level == 1 && at == 0 {
			return least
		}
		return api.SectorSize
	}
	var all counts
	for many := 600; many <= 3000; many += max(8, many/2-300) {
		_, p := mustFormat(t, 4000)
		m := pairs(many, maxKey, 10)
		layTree(t, p, m, firstLeafSmall, shortest)
		all.add(play(p, m, fmt.Sprint(many, " pairs")).edit(t, edit{key: numbered(0, maxKey), gone: true}))
	}
	if all.cutByDel < 2 || all.up == 0 {
		t.Errorf("%+v", all)
	}
}

package btree_test

import (
	"fmt"
	"maps"
	"testing"

	"buttery/api"
	"buttery/btree"
	"buttery/pager"
)

// roomy is a tree that is laid down, on a disk of n sectors on which just so many pages are free.
func roomy(t *testing.T, n int, m mind, f fill, free int) (*pager.Pager, *btree.Tree) {
	t.Helper()
	_, p := mustFormat(t, n)
	if len(m) > 0 {
		layTree(t, p, m, f, itself)
	}
	mustTake(t, p, p.Free()-free)
	return p, btree.New(p)
}

// P7.6: a Put is not refused where as many pages are free as it asks for, and is refused where
// one fewer is; what is refused changes nothing. So is a Del, of a key that is there and of one
// that is not.
func TestRoom(t *testing.T) {
	for _, many := range []int{0, 1, 9, 60} {
		m := pairs(many, 40, 10, 64, 70, 490)
		keys := []string{"", numbered(1, 40), numbered(many*256, 40), m.one(new(row)), numbered(256*(many-1), 40)}
		for i, f := range []fill{small, great, drawn(1)} {
			t.Run(fmt.Sprint(many, i), func(t *testing.T) {
				t.Parallel()
				for _, key := range keys {
					for _, size := range sizes() {
						needPut(t, m, f, key, text(1, size))
					}
					needDel(t, m, f, key)
				}
			})
		}
	}
}

// needPut asks what a Put needs.
func needPut(t *testing.T, m mind, f fill, key, value string) {
	t.Helper()
	what := fmt.Sprint("Put ", shown(key), " ", shown(value), " into ", len(m))
	need := spare + longOf(value)
	p, tree := roomy(t, 400, m, f, need-1)
	was, others := places(t, what, p), p.Pages()-1-need-shapeOf(t, what, p, -1).pages()
	must(t, what, tree.Put(key, value), api.ErrFull)
	if unlike(was, places(t, what, p)) != 0 {
		t.Fatalf("%s: it was refused, and changed something", what)
	}
	p, tree = roomy(t, 400, m, f, need)
	mustPut(t, tree, key, value)
	now := maps.Clone(m)
	now[key] = value
	if s := shapeOf(t, what, p, others); fmt.Sprint(s.cells) != fmt.Sprint(now.cells("", "")) {
		t.Fatalf("%s: %s", what, shownCells(s.cells))
	}
}

// needDel asks what a Del needs.
func needDel(t *testing.T, m mind, f fill, key string) {
	t.Helper()
	what := fmt.Sprint("Del ", shown(key), " of ", len(m))
	p, tree := roomy(t, 400, m, f, spare-1)
	was := places(t, what, p)
	mustNotDel(t, tree, key, api.ErrFull)
	if unlike(was, places(t, what, p)) != 0 {
		t.Fatalf("%s: it was refused, and changed something", what)
	}
	p, tree = roomy(t, 400, m, f, spare)
	_, had := m[key]
	mustDel(t, tree, key, had)
	now := maps.Clone(m)
	delete(now, key)
	if s := shapeOf(t, what, p, -1); fmt.Sprint(s.cells) != fmt.Sprint(now.cells("", "")) {
		t.Fatalf("%s: %s", what, shownCells(s.cells))
	}
}

// P7.6: the pages of an old value are not counted as free ahead of the new one.
func TestRoomOfOldValues(t *testing.T) {
	m := mind{"k": text(1, 8192)}
	_, tree := roomy(t, 400, m, small, spare+17)
	mustNotPut(t, tree, "k", text(2, 8192), api.ErrFull)
	mustPut(t, tree, "k", text(2, 17*480))
	mustGet(t, tree, "k", text(2, 17*480))
	_, tree = roomy(t, 400, m, small, spare-1)
	mustNotPut(t, tree, "k", "short", api.ErrFull)
	mustNotDel(t, tree, "k", api.ErrFull)
	mustGet(t, tree, "k", text(1, 8192))
}

// P7.6: a Put that cuts all nodes on the way up has room, if as many pages are free as it asks
// for; and a Del that joins them.
func TestRoomUpToTheRoot(t *testing.T) {
	m := pairs(8+2*(11+4*(51-1)-1), 46, 14)
	p, tree := roomy(t, 2000, m, firstGreat, spare)
	levels := shapeOf(t, "laid", p, -1).levels
	mustPut(t, tree, numbered(1, 46), text(1, 64))
	if s := shapeOf(t, "cut", p, -1); s.levels != levels+1 {
		t.Fatalf("%d levels, there were %d", s.levels, levels)
	}
	mustFree(t, "cut", tree, spare-levels-1)
	mustNotPut(t, tree, "a", "", api.ErrFull)
	m = pairs(64, maxKey, 13)
	p, tree = roomy(t, 2000, m, small, spare)
	levels = shapeOf(t, "laid", p, -1).levels
	mustDel(t, tree, numbered(0, maxKey), true)
	if s := shapeOf(t, "joined", p, -1); s.levels != levels-1 {
		t.Fatalf("%d levels, there were %d", s.levels, levels)
	}
}

package btree_test

import (
	"maps"
	"slices"
	"strings"
	"testing"

	"buttery/api"
	"buttery/node"
	"buttery/pager"
)

// Trees that are laid down page by page, without the package's calls: so their nodes can be
// filled as a test needs it.

// fill says up to which size a node is filled, by its level (leaves: 1) and its place there.
type fill func(level, at int) int

// All nodes as small as they may be, or as great; each some way; and all small but for those
// on the way to the first key, or the other way round.
func small(level, at int) int { return least }
func great(level, at int) int { return api.SectorSize }
func drawn(seed int) fill {
	return func(level, at int) int {
		r := row(1000*seed + 100*level + at)
		return one(&r, []int{least, api.SectorSize, least + r.next(api.SectorSize-least)})
	}
}
func firstGreat(level, at int) int {
	if at == 0 {
		return api.SectorSize
	}
	return least
}
func firstSmall(level, at int) int {
	if at == 0 {
		return least
	}
	return api.SectorSize
}

// between is a key that divides two others: above the first, not above the second.
type between func(below, above string) string

// The shortest such key, the longest one, and the second one itself.
func shortest(below, above string) string {
	n := 1
	for above[:n] <= below {
		n++
	}
	return above[:n]
}
func longest(below, above string) string {
	for n := maxKey - len(below); n > 0; n-- {
		if s := below + strings.Repeat("\x00", n); s <= above {
			return s
		}
	}
	return above
}
func itself(below, above string) string { return above }

// item is a page, the first key that may stand under it, and the first and last ones that do.
type item struct {
	page            int
	key, from, last string
}

// pack parts things into nodes that are filled so.
func pack[T any](l []T, nodeOf func([]T) node.Node, level int, f fill) [][]T {
	size := func(l []T) int { return node.Size(nodeOf(l)) }
	var packs [][]T
	for len(l) > 0 {
		n := 1
		for most := f(level, len(packs)); n < len(l) && size(l[:n]) < most && size(l[:n+1]) <= api.SectorSize; {
			n++
		}
		packs, l = append(packs, l[:n]), l[n:]
	}
	last := len(packs) - 1
	if last == 0 || size(packs[last]) >= least {
		return packs
	}
	both := slices.Concat(packs[last-1], packs[last])
	packs = packs[:last-1]
	if size(both) <= api.SectorSize {
		return append(packs, both)
	}
	n := 1
	for size(both[:n]) < size(both)/2 {
		n++
	}
	return append(packs, both[:n], both[n:])
}

// layTree lays a tree of these pairs down, and commits it. It tells its levels.
func layTree(t *testing.T, p *pager.Pager, m mind, f fill, b between) int {
	t.Helper()
	put := func(bytes []byte) int {
		n, err := p.Alloc()
		if err == api.OK {
			err = p.Write(n, bytes)
		}
		must(t, "a page that is laid down", err, api.OK)
		if n%8 == 0 { // not too many in one commit
			must(t, "pager.Commit", p.Commit(), api.OK)
		}
		return n
	}
	var cells []node.Cell
	for _, key := range slices.Sorted(maps.Keys(m)) {
		c := node.Cell{Key: key, Value: m[key]}
		if n := longOf(c.Value); n > 0 {
			c = node.Cell{Key: key, Size: len(m[key])}
			for i := n - 1; i >= 0; i-- {
				c.Long = put(longPage(c.Long, m[key][i*data:min((i+1)*data, c.Size)]))
			}
		}
		cells = append(cells, c)
	}
	var items []item
	for _, l := range pack(cells, func(l []node.Cell) node.Node { return leaf(l...) }, 1, f) {
		x := item{page: put(page(t, leaf(l...))), from: l[0].Key, last: l[len(l)-1].Key}
		if n := len(items); n > 0 {
			x.key = b(items[n-1].last, x.from)
		}
		items = append(items, x)
	}
	levels := 1
	for ; len(items) > 1; levels++ {
		var up []item
		for _, l := range pack(items, branchOf, levels+1, f) {
			up = append(up, item{put(page(t, branchOf(l))), l[0].key, l[0].from, l[len(l)-1].last})
		}
		items = up
	}
	must(t, "pager.SetRoot", p.SetRoot(items[0].page), api.OK)
	must(t, "pager.Commit", p.Commit(), api.OK)
	return levels
}

// branchOf is the branch above some pages.
func branchOf(l []item) node.Node {
	n := branch(nil, l[0].page)
	for _, x := range l[1:] {
		n.Cells = append(n.Cells, node.Cell{Key: x.key})
		n.Kids = append(n.Kids, x.page)
	}
	return n
}

// What is laid down is sound itself, and found as it was.
func TestLaidTrees(t *testing.T) {
	for i, f := range []fill{small, great, drawn(0), firstGreat, firstSmall} {
		for j, b := range []between{shortest, longest, itself} {
			_, p := mustFormat(t, 2000)
			m := pairs(150, 4+22*j, sizes()[:6]...)
			levels := layTree(t, p, m, f, b)
			if s := mustBe(t, "laid", p, m); s.levels != levels || levels < 2 {
				t.Errorf("the fill %d: %d levels, %d are told", i, s.levels, levels)
			}
		}
	}
}

// pairs are some pairs with keys of n bytes, and values of these sizes in turn.
func pairs(many, n int, sizes ...int) mind {
	m := mind{}
	for i := range many {
		m[numbered(i*256, n)] = text(i, sizes[i%len(sizes)])
	}
	return m
}

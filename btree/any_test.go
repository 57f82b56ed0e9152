package btree_test

import (
	"fmt"
	"slices"
	"strings"
	"testing"

	"buttery/api"
	"buttery/btree"
	"buttery/node"
	"buttery/pager"
)

// pagesOf are pages with these bytes, which are told the pages' numbers; the first one is the
// root. One page more is taken and dropped again: its number is the last one.
func pagesOf(t *testing.T, many int, bytes func(at []int) [][]byte) (*pager.Pager, *btree.Tree) {
	t.Helper()
	_, p := mustFormat(t, 1000)
	var at []int
	for range many + 1 {
		n, err := p.Alloc()
		must(t, "pager.Alloc", err, api.OK)
		at = append(at, n)
	}
	for i, b := range bytes(at) {
		must(t, "pager.Write", p.Write(at[i], b), api.OK)
	}
	must(t, "pager.Drop", p.Drop(at[many]), api.OK)
	must(t, "pager.SetRoot", p.SetRoot(at[0]), api.OK)
	must(t, "pager.Commit", p.Commit(), api.OK)
	return p, btree.New(p)
}

// mustRefuse asks that whatever is asked of a key, or of all, is refused since there is no tree,
// and changes nothing.
func mustRefuse(t *testing.T, what string, p *pager.Pager, tree *btree.Tree, key string) {
	t.Helper()
	was := places(t, what, p)
	must(t, what+": Put", tree.Put(key, "new"), api.ErrForm)
	must(t, what+": Put", tree.Put(key, text(1, 1000)), api.ErrForm)
	mustNotGet(t, tree, key, api.ErrForm)
	mustNotDel(t, tree, key, api.ErrForm)
	mustNotRange(t, tree, "", "", api.ErrForm)
	mustNotRange(t, tree, key, key+"\x00", api.ErrForm)
	if n := unlike(was, places(t, what, p)); n != 0 {
		t.Fatalf("%s: it was refused, and %d pages were changed", what, n)
	}
}

// cell and long are cells of a leaf.
func cell(key, value string) node.Cell        { return node.Cell{Key: key, Value: value} }
func long(key string, at, size int) node.Cell { return node.Cell{Key: key, Long: at, Size: size} }

// R1: a root in whose page no node of a tree stands.
func TestRootsThatAreNone(t *testing.T) {
	for what, b := range map[string][]byte{
		"noughts":            make([]byte, api.SectorSize),
		"all ones":           []byte(strings.Repeat("\xff", api.SectorSize)),
		"a long page":        longPage(0, text(1, 480)),
		"any bytes":          []byte(text(2, api.SectorSize)),
		"a leaf that is cut": append(page(t, leaf(cell("a", "b"), cell("c", "d")))[:7], make([]byte, api.SectorSize-7)...),
		"something behind":   append(page(t, leaf(cell("a", "b")))[:api.SectorSize-1], 1),
		"no cells":           page(t, leaf()),
		"one kid":            page(t, branch(nil, 1)),
	} {
		p, tree := pagesOf(t, 1, func([]int) [][]byte { return [][]byte{b} })
		mustRefuse(t, what, p, tree, "k")
	}
	p, tree := pagesOf(t, 1, func([]int) [][]byte { return [][]byte{page(t, leaf(cell("k", "v")))} })
	mustGet(t, tree, "k", "v")
	must(t, "pager.Drop", p.Drop(p.Root()), api.OK)
	mustRefuse(t, "a root that is not in use", p, tree, "k")
}

// R1: kids that are none, or that are not those of this branch: all to which the key k leads.
func TestKidsThatAreNone(t *testing.T) {
	a, k, kz := leaf(cell("a", "1")), leaf(cell("k", "2")), leaf(cell("k", "2"), cell("z", "3"))
	for what, nodes := range map[string]func(at []int) []node.Node{
		"the page 0":        func(at []int) []node.Node { return []node.Node{branch([]string{"k"}, at[1], 0), a, k} },
		"no page in use":    func(at []int) []node.Node { return []node.Node{branch([]string{"k"}, at[1], at[5]), a, k} },
		"no page":           func(at []int) []node.Node { return []node.Node{branch([]string{"k"}, at[1], 5000), a, k} },
		"a great number":    func(at []int) []node.Node { return []node.Node{branch([]string{"k"}, at[1], api.MaxCount), a, k} },
		"the root":          func(at []int) []node.Node { return []node.Node{branch([]string{"k"}, at[1], at[0]), a} },
		"the one beside it": func(at []int) []node.Node { return []node.Node{branch([]string{"k"}, at[1], at[1]), a} },
		"keys too low": func(at []int) []node.Node {
			return []node.Node{branch([]string{"k"}, at[1], at[2]), a, leaf(cell("j", "2"), cell("k", "3"))}
		},
		"keys too high": func(at []int) []node.Node {
			return []node.Node{branch([]string{"z"}, at[1], at[2]), kz, leaf(cell("zz", "4"))}
		},
		"a leaf without keys": func(at []int) []node.Node { return []node.Node{branch([]string{"k"}, at[1], at[2]), a, leaf()} },
		"a branch without keys": func(at []int) []node.Node {
			return []node.Node{branch([]string{"k"}, at[1], at[2]), branch(nil, at[3]), branch(nil, at[4]), a, k}
		},
		"a branch whose first key is too low": func(at []int) []node.Node {
			return []node.Node{branch([]string{"k"}, at[1], at[2]), a, branch([]string{"k"}, at[3], at[4]), leaf(cell("j", "1")), k}
		},
		"a branch whose last key is too high": func(at []int) []node.Node {
			return []node.Node{branch([]string{"x"}, at[2], at[1]), leaf(cell("x", "1")), branch([]string{"k", "x"}, at[3], at[4], at[5]), a, k}
		},
		"a circle": func(at []int) []node.Node {
			return []node.Node{branch([]string{"b"}, at[1], at[2]), a, branch([]string{"j", "x"}, at[3], at[0], at[0]), leaf(cell("c", "1"))}
		},
	} {
		p, tree := pagesOf(t, 5, func(at []int) [][]byte {
			var l [][]byte
			for _, n := range nodes(at) {
				l = append(l, page(t, n))
			}
			return l
		})
		mustRefuse(t, what, p, tree, "k")
	}
}

// R1: leaves that are not equally deep. Who comes by one of them alone does not see that; who
// changes one beside which there is a branch, and who comes by all, does.
func TestLeavesThatAreNotEquallyDeep(t *testing.T) {
	a, k, z := leaf(cell("a", "1")), leaf(cell("k", "2")), leaf(cell("z", "3"))
	for i, nodes := range []func(at []int) []node.Node{
		func(at []int) []node.Node {
			return []node.Node{branch([]string{"k"}, at[1], at[2]), a, branch([]string{"m"}, at[3], at[4]), k, z}
		},
		func(at []int) []node.Node {
			return []node.Node{branch([]string{"m"}, at[1], at[2]), branch([]string{"k"}, at[3], at[4]), z, a, k}
		},
	} {
		p, tree := pagesOf(t, 5, func(at []int) [][]byte {
			var l [][]byte
			for _, n := range nodes(at) {
				l = append(l, page(t, n))
			}
			return l
		})
		was := places(t, "leaves", p)
		for key, value := range map[string]string{"a": "1", "k": "2", "z": "3"} {
			mustGet(t, tree, key, value)
			mustNotPut(t, tree, key, "new", api.ErrForm)
			mustNotDel(t, tree, key, api.ErrForm)
			mustRange(t, tree, key, key+"\x00", []btree.Cell{{Key: key, Value: value}})
		}
		mustNotRange(t, tree, "", "", api.ErrForm)
		if unlike(was, places(t, "leaves", p)) != 0 {
			t.Fatalf("%d: something was changed", i)
		}
	}
}

// R1: long values that are none.
func TestLongValuesThatAreNone(t *testing.T) {
	v := text(7, 1000)
	for what, x := range map[string]struct {
		size  int
		pages func(at []int) [][]byte // those behind the leaf, the first one of which the cell tells
	}{
		"one page too few":  {1000, func(at []int) [][]byte { return [][]byte{longPage(at[2], v[:480]), longPage(0, v[480:960])} }},
		"one page too many": {900, func(at []int) [][]byte { return [][]byte{longPage(at[2], v[:480]), longPage(at[3], v[480:960])} }},
		"many too many":     {100, func(at []int) [][]byte { return [][]byte{longPage(at[2], v[:480]), longPage(at[1], v[480:960])} }},
		"no page in use":    {900, func(at []int) [][]byte { return [][]byte{longPage(at[4], v[:480])} }},
		"a great number":    {900, func(at []int) [][]byte { return [][]byte{longPage(1<<32-1, v[:480])} }},
		"itself":            {900, func(at []int) [][]byte { return [][]byte{longPage(at[1], v[:480])} }},
		"a circle":          {1400, func(at []int) [][]byte { return [][]byte{longPage(at[2], v[:480]), longPage(at[1], v[480:960])} }},
		"the leaf":          {900, func(at []int) [][]byte { return [][]byte{longPage(at[0], v[:480])} }},
		"one that is short": {64, func(at []int) [][]byte { return [][]byte{longPage(0, v[:64])} }},
		"too long a one":    {8193, func(at []int) [][]byte { return [][]byte{longPage(at[2], v[:480]), longPage(at[3], v[480:960])} }},
		"a very long one":   {api.MaxCount, func(at []int) [][]byte { return [][]byte{longPage(at[1], v[:480])} }},
	} {
		p, tree := pagesOf(t, 4, func(at []int) [][]byte {
			return append([][]byte{page(t, leaf(cell("a", "1"), long("k", at[1], x.size)))}, x.pages(at)...)
		})
		mustRefuse(t, what, p, tree, "k")
		mustGet(t, tree, "a", "1") // nothing is wrong with the others
		mustRange(t, tree, "", "k", []btree.Cell{{Key: "a", Value: "1"}})
		mustPut(t, tree, "a", "2")
		mustPut(t, tree, "b", text(1, 600))
		mustDel(t, tree, "a", true)
		mustGet(t, tree, "b", text(1, 600))
	}
	for _, size := range []int{8192, 8193} { // as many pages, but a value that is too long
		_, tree := pagesOf(t, 19, func(at []int) [][]byte {
			l := [][]byte{page(t, leaf(long("k", at[1], size)))}
			for i := range 17 {
				l = append(l, longPage(at[i+2], text(i, 480)))
			}
			return append(l, longPage(0, text(17, 480)))
		})
		if v, ok, err := tree.Get("k"); (err == api.OK) != (size == 8192) || ok && len(v) != size {
			t.Fatalf("a value of %d bytes: %d, %v, %v", size, len(v), ok, err)
		}
	}
	_, tree := pagesOf(t, 3, func(at []int) [][]byte { // a good one
		return [][]byte{page(t, leaf(cell("a", "1"), long("k", at[2], 600))), longPage(0, v[480:600]), longPage(at[1], v[:480])}
	})
	mustGet(t, tree, "k", v[:600])
	_, tree = pagesOf(t, 2, func(at []int) [][]byte { // two keys of one page
		return [][]byte{page(t, leaf(long("k", at[1], 100), long("l", at[1], 100))), longPage(0, v[:100])}
	})
	mustGet(t, tree, "k", v[:100])
	mustGet(t, tree, "l", v[:100])
	mustNotRange(t, tree, "", "", api.ErrForm)
}

// R1: branches that go down deeper than a tree can: no call comes to an end by the pages alone.
func TestTooDeep(t *testing.T) {
	for _, many := range []int{14, 15, 40} {
		p, tree := pagesOf(t, 2*many+1, func(at []int) [][]byte {
			var l [][]byte
			for i := range many {
				l = append(l, page(t, branch([]string{numbered(i+1, 4)}, at[many+1+i], at[i+1])))
			}
			l = append(l, page(t, leaf(cell("k", "v"))))
			for i := range many {
				kid := leaf(cell(numbered(i, 4), "v"))
				if i < many-1 {
					kid = branch([]string{numbered(i, 4) + "a"}, 0, 0)
				}
				l = append(l, page(t, kid))
			}
			return l
		})
		if many == 14 {
			mustGet(t, tree, "k", "v")
			mustPut(t, tree, "k", "w")
			mustGet(t, tree, "k", "w")
			continue
		}
		mustRefuse(t, fmt.Sprint(many, " branches"), p, tree, "k")
	}
}

// anyPage are the bytes of a page: a node, good or bad, a long page, or anything.
func (r *row) anyPage(t *testing.T, pages int) []byte {
	t.Helper()
	var b []byte
	switch r.next(8) {
	case 0:
		b = []byte(text(r.next(1000), api.SectorSize))
	case 1:
		b = longPage(r.next(pages), text(r.next(1000), data))
	default:
		n := r.anyNode(pages)
		x, err := node.Encode(n)
		if err != api.OK {
			return r.anyPage(t, pages)
		}
		b = append(x, make([]byte, api.SectorSize-len(x))...)
	}
	if r.next(8) == 0 {
		b[r.next(r.next(len(b))+1)] ^= 1 << r.next(8)
	}
	return b
}

// anyNode is a node with few keys that rise.
func (r *row) anyNode(pages int) node.Node {
	var keys []string
	for range r.next(6) + 1 {
		keys = append(keys, r.keyOf(r.next(4)))
	}
	slices.Sort(keys)
	keys = slices.Compact(keys)
	if r.next(2) == 0 {
		n := branch(keys)
		for range len(keys) + 1 {
			n.Kids = append(n.Kids, r.next(pages))
		}
		return n
	}
	n := leaf()
	for _, k := range keys {
		if r.next(3) == 0 {
			n.Cells = append(n.Cells, long(k, 1+r.next(pages), one(r, []int{1, 65, 400, 900, 1400, 8192, 9000})))
		} else {
			n.Cells = append(n.Cells, cell(k, text(1, r.next(inline+1))))
		}
	}
	return n
}

// mustEnd does drawn calls on a tree of anything: all of them end; one that is refused changes
// nothing. It tells how many were refused since there is no tree.
func mustEnd(t *testing.T, what string, p *pager.Pager, r *row, keyOf func() string) int {
	t.Helper()
	tree, refused := btree.New(p), 0
	was := places(t, what, p)
	for i := range 25 {
		key, err := keyOf(), api.OK
		switch r.next(5) {
		case 0:
			_, _, err = tree.Get(key)
		case 1, 2:
			err = tree.Put(key, text(i, one(r, sizes())))
		case 3:
			_, err = tree.Del(key)
		default:
			_, err = tree.Range(key, keyOf())
		}
		is := places(t, what, p)
		if err != api.OK && unlike(was, is) != 0 {
			t.Fatalf("%s: call %d of %s: %v, and %d pages were changed", what, i, shown(key), err, unlike(was, is))
		}
		was = is
		switch err {
		case api.ErrForm:
			refused++
		case api.OK, api.ErrFull:
		default:
			t.Fatalf("%s: call %d of %s: %v", what, i, shown(key), err)
		}
	}
	mustNoPanic(tree)
	return refused
}

// mustNoPanic asks for all.
func mustNoPanic(tree *btree.Tree) {
	tree.Range("", "")
	tree.Abort()
	tree.Range("", "")
	tree.Commit()
}

// R1: whatever bytes lie in the pages, and whatever the root is.
func TestAnyPages(t *testing.T) {
	t.Parallel()
	refused := 0
	for seed := range 1500 {
		r := row(seed)
		_, p := mustFormat(t, 100)
		many := 2 + r.next(12)
		mustTake(t, p, many)
		for n := range many {
			must(t, "pager.Write", p.Write(n+1, r.anyPage(t, many+2)), api.OK)
		}
		must(t, "pager.SetRoot", p.SetRoot(1+r.next(many)), api.OK)
		refused += mustEnd(t, fmt.Sprint("seed ", seed), p, &r, func() string { return r.keyOf(r.next(4)) })
	}
	if refused == 0 || refused == 25*1500 {
		t.Errorf("%d calls were refused", refused)
	}
}

// R1: trees of which some pages were spoiled.
func TestSpoiledTrees(t *testing.T) {
	t.Parallel()
	refused := 0
	for seed := range 300 {
		r := row(seed)
		_, p := mustFormat(t, 400)
		m := pairs(40+r.next(60), 10+r.next(38), 14, 64, 100, 600)
		layTree(t, p, m, drawn(seed), []between{shortest, longest, itself}[r.next(3)])
		for range r.next(4) + 1 {
			spoil(t, p, &r)
		}
		refused += mustEnd(t, fmt.Sprint("seed ", seed), p, &r, func() string {
			if r.next(3) == 0 {
				return r.keyOf(2)
			}
			return m.one(&r)
		})
	}
	if refused == 0 || refused == 25*300 {
		t.Errorf("%d calls were refused", refused)
	}
}

// spoil spoils a page that is in use: one of its bytes, or a kid, or all; or drops it; or lets
// it be the root.
func spoil(t *testing.T, p *pager.Pager, r *row) {
	t.Helper()
	used := p.Pages() - 1 - p.Free()
	at := 1 + r.next(used)
	b, err := p.Read(at)
	if err != api.OK {
		return // it was dropped
	}
	other, err := p.Read(1 + r.next(used))
	if err != api.OK {
		other = b
	}
	switch r.next(8) {
	case 0:
		p.SetRoot(at)
		return
	case 1:
		p.Drop(at)
		return
	case 2:
		b = other
	case 3, 4:
		b[r.next(api.SectorSize)] ^= 1 << r.next(8)
	case 5:
		b[r.next(8)] = byte(r.next(256))
	default:
		n, err := node.Decode(b)
		if err != api.OK || n.Leaf {
			b = longPage(r.next(used+3), string(b[4:484]))
			break
		}
		n.Kids[r.next(len(n.Kids))] = r.next(used + 3)
		if x, err := node.Encode(n); err == api.OK {
			b = append(x, make([]byte, api.SectorSize-len(x))...)
		}
	}
	must(t, "pager.Write", p.Write(at, b), api.OK)
}

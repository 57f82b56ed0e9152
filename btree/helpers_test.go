package btree_test

import (
	"fmt"
	"maps"
	"slices"
	"strings"
	"testing"

	"buttery/api"
	"buttery/btree"
	"buttery/disk"
	"buttery/node"
	"buttery/pager"
)

// The chapter's numbers, written out.
const (
	maxKey   = 48
	maxValue = 8192
	inline   = 64
	data     = 480
	spare    = 24
	least    = 128
)

// must asks that a call answered want.
func must(t *testing.T, what string, got, want api.Errno) {
	t.Helper()
	if got != want {
		t.Fatalf("%s: %v, want %v", what, got, want)
	}
}

// mustFormat is a new pager on a new disk of n sectors.
func mustFormat(t *testing.T, n int) (*disk.Disk, *pager.Pager) {
	t.Helper()
	d, err := disk.New(n)
	must(t, "disk.New", err, api.OK)
	p, err := pager.Format(d)
	must(t, "pager.Format", err, api.OK)
	return d, p
}

// mustOpen is the pager that a disk has.
func mustOpen(t *testing.T, what string, d *disk.Disk) *pager.Pager {
	t.Helper()
	p, err := pager.Open(d)
	must(t, what+": pager.Open", err, api.OK)
	return p
}

// mustReopen is a disk of what lasts on a dead one.
func mustReopen(t *testing.T, d *disk.Disk) *disk.Disk {
	t.Helper()
	e, err := d.Reopen()
	must(t, "disk.Reopen", err, api.OK)
	return e
}

// mustTree is an empty tree on a new disk of n sectors.
func mustTree(t *testing.T, n int) *btree.Tree {
	t.Helper()
	_, p := mustFormat(t, n)
	return btree.New(p)
}

// mustTake takes n pages, which no tree has.
func mustTake(t *testing.T, p *pager.Pager, n int) {
	t.Helper()
	for range n {
		_, err := p.Alloc()
		must(t, "pager.Alloc", err, api.OK)
		must(t, "pager.Commit", p.Commit(), api.OK)
	}
}

// shown is a text, cut where it is long.
func shown(s string) string {
	if len(s) <= 20 {
		return fmt.Sprintf("%q", s)
	}
	return fmt.Sprintf("%q.. (%d)", s[:20], len(s))
}

// shownCells are cells, cut where they are many.
func shownCells(l []btree.Cell) string {
	var b strings.Builder
	for i, c := range l {
		if i == 30 {
			fmt.Fprintf(&b, ".. (%d)", len(l))
			break
		}
		fmt.Fprintf(&b, "{%s %s} ", shown(c.Key), shown(c.Value))
	}
	return b.String()
}

// mustPut puts.
func mustPut(t *testing.T, tree *btree.Tree, key, value string) {
	t.Helper()
	must(t, "Put "+shown(key)+" "+shown(value), tree.Put(key, value), api.OK)
}

// mustNotPut asks that a Put is refused.
func mustNotPut(t *testing.T, tree *btree.Tree, key, value string, want api.Errno) {
	t.Helper()
	must(t, "Put "+shown(key)+" "+shown(value), tree.Put(key, value), want)
}

// mustDel asks what a Del answers.
func mustDel(t *testing.T, tree *btree.Tree, key string, want bool) {
	t.Helper()
	if had, err := tree.Del(key); err != api.OK || had != want {
		t.Fatalf("Del %s: %v, %v, want %v", shown(key), had, err, want)
	}
}

// mustNotDel asks that a Del is refused, and tells nothing.
func mustNotDel(t *testing.T, tree *btree.Tree, key string, want api.Errno) {
	t.Helper()
	if had, err := tree.Del(key); err != want || had {
		t.Fatalf("Del %s: %v, %v, want %v", shown(key), had, err, want)
	}
}

// mustGet asks that a key has a value.
func mustGet(t *testing.T, tree *btree.Tree, key, want string) {
	t.Helper()
	if v, ok, err := tree.Get(key); err != api.OK || !ok || v != want {
		t.Fatalf("Get %s: %s, %v, %v, want %s", shown(key), shown(v), ok, err, shown(want))
	}
}

// mustNotGet asks that nothing is told of a key: because of an error, or since it has none.
func mustNotGet(t *testing.T, tree *btree.Tree, key string, want api.Errno) {
	t.Helper()
	if v, ok, err := tree.Get(key); err != want || ok || v != "" {
		t.Fatalf("Get %s: %s, %v, %v, want none, %v", shown(key), shown(v), ok, err, want)
	}
}

// mustRange asks what a range has.
func mustRange(t *testing.T, tree *btree.Tree, from, to string, want []btree.Cell) {
	t.Helper()
	if l, err := tree.Range(from, to); err != api.OK || !slices.Equal(l, want) {
		t.Fatalf("Range %s %s: %s, %v, want %s", shown(from), shown(to), shownCells(l), err, shownCells(want))
	}
}

// mustNotRange asks that a Range is refused, and tells nothing.
func mustNotRange(t *testing.T, tree *btree.Tree, from, to string, want api.Errno) {
	t.Helper()
	if l, err := tree.Range(from, to); err != want || len(l) != 0 {
		t.Fatalf("Range %s %s: %s, %v, want %v", shown(from), shown(to), shownCells(l), err, want)
	}
}

// mustFree asks how many pages are free.
func mustFree(t *testing.T, what string, tree *btree.Tree, want int) {
	t.Helper()
	if n := tree.Free(); n != want {
		t.Fatalf("%s: Free %d, want %d", what, n, want)
	}
}

// mind is a tree in mind.
type mind map[string]string

// cells are the cells of a range.
func (m mind) cells(from, to string) []btree.Cell {
	var l []btree.Cell
	for _, k := range slices.Sorted(maps.Keys(m)) {
		if k >= from && (to == "" || k < to) {
			l = append(l, btree.Cell{Key: k, Value: m[k]})
		}
	}
	return l
}

// fill puts all pairs into a tree, and commits each.
func (m mind) fill(t *testing.T, tree *btree.Tree) {
	t.Helper()
	for _, c := range m.cells("", "") {
		mustPut(t, tree, c.Key, c.Value)
		must(t, "Commit", tree.Commit(), api.OK)
	}
}

// one is a key of those that are there, if there are some.
func (m mind) one(r *row) string {
	l := slices.Sorted(maps.Keys(m))
	if len(l) == 0 {
		return ""
	}
	return l[r.next(len(l))]
}

// longOf is in how many long pages a value stands.
func longOf(value string) int {
	switch n := len(value); {
	case n <= inline:
		return 0
	case n%data == 0:
		return n / data
	default:
		return n/data + 1
	}
}

// text is a text of n bytes of all kinds, which differ with seed.
func text(seed, n int) string {
	b := make([]byte, n)
	x := uint32(seed)*2654435761 + 12345
	for i := range b {
		x = x*1664525 + 1013904223
		b[i] = byte(x >> 24)
	}
	return string(b)
}

// numbered is a key of n bytes (4 or more); they rise with i.
func numbered(i, n int) string {
	return string([]byte{byte(i >> 24), byte(i >> 16), byte(i >> 8), byte(i)}) + strings.Repeat("k", n-4)
}

// row are the numbers of a row that hangs on its beginning alone.
type row uint32

// next is a number from 0 on, below n.
func (r *row) next(n int) int {
	*r = *r*1664525 + 1013904223
	return int(*r>>8) % n
}

// one is one of a list.
func one[T any](r *row, l []T) T { return l[r.next(len(l))] }

// keeps are n truth values.
func (r *row) keeps(n int) []bool {
	l := make([]bool, n)
	for i := range l {
		l[i] = r.next(2) == 1
	}
	return l
}

// sizes are how long values may be: about each edge.
func sizes() []int {
	return []int{0, 1, 63, 64, 65, 66, 479, 480, 481, 959, 960, 961, 1440, 2000, 8191, 8192}
}

// places are the pages in use, by what they read as; in place 0, what no page is in, stands the
// root.
func places(t *testing.T, what string, p *pager.Pager) map[int]string {
	t.Helper()
	l := map[int]string{0: fmt.Sprint(p.Root())}
	for n := 1; n < p.Pages(); n++ {
		b, err := p.Read(n)
		if err == api.OK {
			l[n] = string(b)
		} else if err != api.ErrArg {
			t.Fatalf("%s: pager.Read(%d): %v", what, n, err)
		}
	}
	if p.Free() != p.Pages()-len(l) {
		t.Fatalf("%s: %d pages are free, but %d of %d in use", what, p.Free(), len(l)-1, p.Pages())
	}
	return l
}

// unlike are how many pages are not in both as they are in one.
func unlike(a, b map[int]string) int {
	n := 0
	for at := range a {
		if x, ok := b[at]; at > 0 && (!ok || x != a[at]) {
			n++
		}
	}
	for at := range b {
		if _, ok := a[at]; !ok {
			n++
		}
	}
	return n
}

// leaf and branch are nodes.
func leaf(cells ...node.Cell) node.Node { return node.Node{Leaf: true, Cells: cells} }

func branch(keys []string, kids ...int) node.Node {
	n := node.Node{Kids: kids}
	for _, k := range keys {
		n.Cells = append(n.Cells, node.Cell{Key: k})
	}
	return n
}

// page are the bytes of a node's page.
func page(t *testing.T, n node.Node) []byte {
	t.Helper()
	b, err := node.Encode(n)
	must(t, "node.Encode", err, api.OK)
	return append(b, make([]byte, api.SectorSize-len(b))...)
}

// longPage are the bytes of a long page.
func longPage(next int, data string) []byte {
	b := append([]byte{byte(next >> 24), byte(next >> 16), byte(next >> 8), byte(next)}, data...)
	return append(b, make([]byte, api.SectorSize-len(b))...)
}

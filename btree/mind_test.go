package btree_test

import (
	"fmt"
	"maps"
	"testing"

	"buttery/api"
	"buttery/btree"
	"buttery/pager"
)

// played is a tree, and the same in mind.
type played struct {
	p         *pager.Pager
	tree      *btree.Tree
	now, kept mind
	told      string
}

// play is a played tree that has these pairs, committed.
func play(p *pager.Pager, m mind, told string) *played {
	return &played{p: p, tree: btree.New(p), now: maps.Clone(m), kept: maps.Clone(m), told: told}
}

// put puts, and tells whether there was room.
func (x *played) put(t *testing.T, key, value string) bool {
	t.Helper()
	want := api.OK
	if x.tree.Free() < spare+longOf(value) {
		want = api.ErrFull
	}
	must(t, x.told+": Put "+shown(key)+" "+shown(value), x.tree.Put(key, value), want)
	if want == api.OK {
		x.now[key] = value
	}
	return want == api.OK
}

// del takes away, if there is room for that.
func (x *played) del(t *testing.T, key string) {
	t.Helper()
	_, had := x.now[key]
	if x.tree.Free() < spare {
		mustNotDel(t, x.tree, key, api.ErrFull)
		return
	}
	mustDel(t, x.tree, key, had)
	delete(x.now, key)
}

// get asks for a key.
func (x *played) get(t *testing.T, key string) {
	t.Helper()
	if value, ok := x.now[key]; ok {
		mustGet(t, x.tree, key, value)
	} else {
		mustNotGet(t, x.tree, key, api.OK)
	}
}

// ranges asks for a range.
func (x *played) ranges(t *testing.T, from, to string) {
	t.Helper()
	mustRange(t, x.tree, from, to, x.now.cells(from, to))
}

// commit commits; what is too much for one commit is dropped.
func (x *played) commit(t *testing.T) {
	t.Helper()
	if err := x.tree.Commit(); err != api.ErrFull {
		must(t, x.told+": Commit", err, api.OK)
		x.kept = maps.Clone(x.now)
		return
	}
	x.abort(t)
}

// abort drops what was not committed.
func (x *played) abort(t *testing.T) {
	t.Helper()
	must(t, x.told+": Abort", x.tree.Abort(), api.OK)
	x.now = maps.Clone(x.kept)
}

// sound asks that the tree is sound, and as in mind.
func (x *played) sound(t *testing.T) shape {
	t.Helper()
	return mustBe(t, x.told, x.p, x.now)
}

// keyOf draws keys of a kind: short ones, long ones that begin alike, long ones that end alike,
// and all lengths.
func (r *row) keyOf(kind int) string {
	switch n := r.next(300); kind {
	case 0:
		return text(n, r.next(3))
	case 1:
		return text(7, maxKey-2) + string([]byte{byte(n >> 4), byte(n << 4)})
	case 2:
		return numbered(n<<8, maxKey)
	default:
		return text(n, n%(maxKey+1))
	}
}

// anyCall does one drawn call.
func (x *played) anyCall(t *testing.T, r *row, kind int) {
	t.Helper()
	key := r.keyOf(kind)
	if r.next(3) == 0 {
		key = x.now.one(r)
	}
	switch at := r.next(40); {
	case at < 15:
		x.put(t, key, text(r.next(100), r.next(inline+1)))
	case at < 19:
		x.put(t, key, text(r.next(100), one(r, sizes())))
	case at < 28:
		x.del(t, key)
	case at < 32:
		x.get(t, key)
	case at < 34:
		x.ranges(t, key, r.keyOf(kind))
	case at < 38:
		x.commit(t)
	default:
		x.abort(t)
	}
}

// P7.3, P7.5: long rows of drawn calls, on disks of all sizes, with all kinds of keys: all
// answers are those in mind, and the tree is sound behind each.
func TestLongRowsAsInMind(t *testing.T) {
	for seed := range 24 {
		t.Run(fmt.Sprint(seed), func(t *testing.T) {
			t.Parallel()
			r := row(seed)
			_, p := mustFormat(t, []int{64, 100, 200, 400, 1000, 2000}[seed%6])
			x := play(p, nil, fmt.Sprint("seed ", seed))
			x.now, x.kept = mind{}, mind{}
			for i := range 400 {
				x.told = fmt.Sprint("seed ", seed, " call ", i)
				x.anyCall(t, &r, seed/6)
				x.sound(t)
			}
		})
	}
}

// orders are orders of so many things: rising, falling, from both ends, and drawn.
func orders(many int) map[string][]int {
	l := map[string][]int{}
	for i := range many {
		l["rising"] = append(l["rising"], i)
		l["falling"] = append(l["falling"], many-1-i)
		if i%2 == 0 {
			l["from both ends"] = append(l["from both ends"], i/2)
		} else {
			l["from both ends"] = append(l["from both ends"], many-1-i/2)
		}
	}
	r := row(many)
	left := append([]int(nil), l["rising"]...)
	for len(left) > 0 {
		at := r.next(len(left))
		l["drawn"] = append(l["drawn"], left[at])
		left[at] = left[len(left)-1]
		left = left[:len(left)-1]
	}
	return l
}

// P7.3, P7.5: trees that grow to some levels and shrink to nothing, in every order, with short
// keys and long ones.
func TestTreesGrowAndShrink(t *testing.T) {
	const many = 300
	for in, grow := range orders(many) {
		for out, shrink := range orders(many) {
			for _, size := range []int{4, 20, maxKey} {
				t.Run(fmt.Sprint(in, ", ", out, ", ", size), func(t *testing.T) {
					t.Parallel()
					growAndShrink(t, grow, shrink, size)
				})
			}
		}
	}
}

// growAndShrink puts pairs in one order, and takes them away in another one.
func growAndShrink(t *testing.T, grow, shrink []int, size int) {
	t.Helper()
	_, p := mustFormat(t, 1000)
	x := play(p, mind{}, "")
	levels := 0
	for n, i := range grow {
		x.told = fmt.Sprint("in ", n)
		x.put(t, numbered(i*999, size), text(i, i%(inline+3)))
		x.get(t, numbered(i*999, size))
		x.get(t, numbered(i*999+1, size))
		if n%16 == 0 {
			x.ranges(t, "", "")
			levels = max(levels, x.sound(t).levels)
			x.commit(t)
		}
	}
	if want := 2 + size/40; levels < want {
		t.Errorf("%d levels, want %d", levels, want)
	}
	for n, i := range shrink {
		x.told = fmt.Sprint("out ", n)
		x.del(t, numbered(i*999, size))
		x.get(t, numbered(i*999, size))
		if n%16 == 0 {
			x.ranges(t, numbered((i-9)*999, size), numbered((i+9)*999, size))
			x.sound(t)
			x.commit(t)
		}
	}
	x.ranges(t, "", "")
	x.sound(t)
	must(t, "Commit", x.tree.Commit(), api.OK)
	if p.Root() != 0 || p.Free() != p.Pages()-1 {
		t.Fatalf("without pairs the root is %d, and %d of %d pages are free", p.Root(), p.Free(), p.Pages())
	}
}

// counts are what was seen over calls.
type counts struct {
	most          int // how many pages one changed at most
	up, down      int // how often there was a level more, and less
	cutByDel      int // how often there were more nodes behind a Del
	joinedByPut   int // and less behind a Put
	grown, shrunk int // by how many nodes one grew, and shrunk, at most
}

// add adds what was seen over others.
func (c *counts) add(o counts) {
	c.most, c.grown, c.shrunk = max(c.most, o.most), max(c.grown, o.grown), max(c.shrunk, o.shrunk)
	c.up += o.up
	c.down += o.down
	c.cutByDel += o.cutByDel
	c.joinedByPut += o.joinedByPut
}

// edit is a Put, or a Del.
type edit struct {
	key, value string
	gone       bool
}

// edit does one, commits it, and asks that the tree is sound, and that not too many pages were
// changed. It tells what was seen.
func (x *played) edit(t *testing.T, e edit) counts {
	t.Helper()
	was, before := x.sound(t), places(t, x.told, x.p)
	old, had := x.now[e.key]
	may := spare + 2*longOf(old)
	if !e.gone {
		may += 2 * longOf(e.value)
		x.put(t, e.key, e.value)
	} else if x.del(t, e.key); !had {
		may = 0
	}
	is, after := x.sound(t), places(t, x.told, x.p)
	n := unlike(before, after)
	if n > may {
		t.Fatalf("%s: %d pages were changed, want at most %d", x.told, n, may)
	}
	x.commit(t)
	c := counts{most: n, grown: max(0, is.nodes-was.nodes), shrunk: max(0, was.nodes-is.nodes)}
	c.up, c.down = max(0, is.levels-was.levels), max(0, was.levels-is.levels)
	if !e.gone {
		c.joinedByPut = min(1, c.shrunk)
	} else {
		c.cutByDel = min(1, c.grown)
	}
	return c
}

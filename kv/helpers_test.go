package kv_test

import (
	"fmt"
	"maps"
	"slices"
	"strings"
	"testing"

	"buttery/api"
	"buttery/disk"
	"buttery/kv"
	"buttery/pager"
)

// The chapter's numbers, written out.
const (
	maxName  = 47
	maxValue = 8192
	inline   = 64
	data     = 480
	spare    = 24
	spaces   = 256
)

// must asks that a call answered want.
func must(t *testing.T, what string, got, want api.Errno) {
	t.Helper()
	if got != want {
		t.Fatalf("%s: %v, want %v", what, got, want)
	}
}

// mustDisk is a new disk of n sectors.
func mustDisk(t *testing.T, n int) *disk.Disk {
	t.Helper()
	d, err := disk.New(n)
	must(t, "disk.New", err, api.OK)
	return d
}

// mustCreate is a new KV on a new disk of n sectors.
func mustCreate(t *testing.T, n int) (*disk.Disk, *kv.KV) {
	t.Helper()
	d := mustDisk(t, n)
	k, err := kv.Create(d)
	must(t, "Create", err, api.OK)
	return d, k
}

// mustOpen is the KV that a disk has.
func mustOpen(t *testing.T, what string, d *disk.Disk) *kv.KV {
	t.Helper()
	k, err := kv.Open(d)
	must(t, what+": Open", err, api.OK)
	return k
}

// mustNotOpen asks that Create, or Open, is refused, and tells nothing.
func mustNotOpen(t *testing.T, what string, k *kv.KV, got, want api.Errno) {
	t.Helper()
	if got != want || k != nil {
		t.Fatalf("%s: a KV %v, %v, want %v", what, k != nil, got, want)
	}
}

// mustReopen is a disk of what lasts on a dead one.
func mustReopen(t *testing.T, d *disk.Disk) *disk.Disk {
	t.Helper()
	e, err := d.Reopen()
	must(t, "disk.Reopen", err, api.OK)
	return e
}

// mustCrash crashes a disk, and is one of what lasts.
func mustCrash(t *testing.T, d *disk.Disk, keep ...bool) *disk.Disk {
	t.Helper()
	must(t, "disk.Crash", d.Crash(keep), api.OK)
	return mustReopen(t, d)
}

// leave is a KV on a new disk of n sectors of which just so many pages are free.
func leave(t *testing.T, n, free int) *kv.KV {
	t.Helper()
	d := mustDisk(t, n)
	p, err := pager.Format(d)
	must(t, "pager.Format", err, api.OK)
	mustTake(t, p, p.Free()-free)
	return mustOpen(t, "with some pages taken", d)
}

// mustTake takes n pages, which no KV has.
func mustTake(t *testing.T, p *pager.Pager, n int) {
	t.Helper()
	for range n {
		_, err := p.Alloc()
		must(t, "pager.Alloc", err, api.OK)
		must(t, "pager.Commit", p.Commit(), api.OK)
	}
}

// put and gone are changes.
func put(space int, key, value string) kv.Change {
	return kv.Change{Space: space, Key: key, Value: value}
}
func gone(space int, key string) kv.Change { return kv.Change{Space: space, Key: key, Gone: true} }

// puts are so many changes, each of a key of its own, whose values have n bytes.
func puts(space, many, n int) []kv.Change {
	var l []kv.Change
	for i := range many {
		l = append(l, put(space, fmt.Sprint("key ", i), text(i, n)))
	}
	return l
}

// shown is a text, cut where it is long.
func shown(s string) string {
	if len(s) <= 20 {
		return fmt.Sprintf("%q", s)
	}
	return fmt.Sprintf("%q.. (%d)", s[:20], len(s))
}

// shownPairs are pairs, cut where they are many.
func shownPairs(l []kv.Pair) string {
	var b strings.Builder
	for i, p := range l {
		if i == 30 {
			fmt.Fprintf(&b, ".. (%d)", len(l))
			break
		}
		fmt.Fprintf(&b, "{%s %s} ", shown(p.Key), shown(p.Value))
	}
	return b.String()
}

// shownBatch is a batch.
func shownBatch(l []kv.Change) string {
	var b strings.Builder
	for _, c := range l {
		fmt.Fprintf(&b, "{%d %s %s %v} ", c.Space, shown(c.Key), shown(c.Value), c.Gone)
	}
	return b.String()
}

// mustApply applies a batch.
func mustApply(t *testing.T, k *kv.KV, l ...kv.Change) {
	t.Helper()
	must(t, "Apply "+shownBatch(l), k.Apply(l), api.OK)
}

// mustNotApply asks that a batch is refused.
func mustNotApply(t *testing.T, k *kv.KV, want api.Errno, l ...kv.Change) {
	t.Helper()
	must(t, "Apply "+shownBatch(l), k.Apply(l), want)
}

// mustNeed asks what a batch needs.
func mustNeed(t *testing.T, k *kv.KV, want int, l ...kv.Change) {
	t.Helper()
	if n, err := k.Need(l); err != api.OK || n != want {
		t.Fatalf("Need %s: %d, %v, want %d", shownBatch(l), n, err, want)
	}
}

// mustNotNeed asks that nothing is told of what a batch needs.
func mustNotNeed(t *testing.T, k *kv.KV, want api.Errno, l ...kv.Change) {
	t.Helper()
	if n, err := k.Need(l); err != want || n != 0 {
		t.Fatalf("Need %s: %d, %v, want %v", shownBatch(l), n, err, want)
	}
}

// mustGet asks that a key has a value.
func mustGet(t *testing.T, k *kv.KV, space int, key, want string) {
	t.Helper()
	if v, ok, err := k.Get(space, key); err != api.OK || !ok || v != want {
		t.Fatalf("Get %d %s: %s, %v, %v, want %s", space, shown(key), shown(v), ok, err, shown(want))
	}
}

// mustNotGet asks that nothing is told of a key: because of an error, or since it has none.
func mustNotGet(t *testing.T, k *kv.KV, space int, key string, want api.Errno) {
	t.Helper()
	if v, ok, err := k.Get(space, key); err != want || ok || v != "" {
		t.Fatalf("Get %d %s: %s, %v, %v, want none, %v", space, shown(key), shown(v), ok, err, want)
	}
}

// mustRange asks what a range has.
func mustRange(t *testing.T, k *kv.KV, space int, from, to string, want ...kv.Pair) {
	t.Helper()
	if l, err := k.Range(space, from, to); err != api.OK || !slices.Equal(l, want) {
		t.Fatalf("Range %d %s %s: %s, %v, want %s", space, shown(from), shown(to), shownPairs(l), err, shownPairs(want))
	}
}

// mustNotRange asks that a Range is refused, and tells nothing.
func mustNotRange(t *testing.T, k *kv.KV, space int, from, to string, want api.Errno) {
	t.Helper()
	if l, err := k.Range(space, from, to); err != want || len(l) != 0 {
		t.Fatalf("Range %d %s %s: %s, %v, want %v", space, shown(from), shown(to), shownPairs(l), err, want)
	}
}

// mustFree asks how many pages are free.
func mustFree(t *testing.T, what string, k *kv.KV, want int) {
	t.Helper()
	if n := k.Free(); n != want {
		t.Fatalf("%s: Free %d, want %d", what, n, want)
	}
}

// mustMost asks how many pages a batch may need.
func mustMost(t *testing.T, k *kv.KV, want int) {
	t.Helper()
	if n := k.Most(); n != want {
		t.Fatalf("Most %d, want %d", n, want)
	}
}

// place is where a pair stands.
type place struct {
	space int
	key   string
}

// mind is a KV in mind.
type mind map[place]string

// pairs are the pairs of a range.
func (m mind) pairs(space int, from, to string) []kv.Pair {
	var l []kv.Pair
	for p, v := range m {
		if p.space == space && p.key >= from && (to == "" || p.key < to) {
			l = append(l, kv.Pair{Key: p.key, Value: v})
		}
	}
	slices.SortFunc(l, func(a, b kv.Pair) int { return strings.Compare(a.Key, b.Key) })
	return l
}

// with is it behind a batch.
func (m mind) with(l ...kv.Change) mind {
	m = maps.Clone(m)
	for _, c := range l {
		if c.Gone {
			delete(m, place{c.Space, c.Key})
		} else {
			m[place{c.Space, c.Key}] = c.Value
		}
	}
	return m
}

// allGone are changes by which all pairs are gone.
func (m mind) allGone() []kv.Change {
	var l []kv.Change
	for space := range spaces {
		for _, p := range m.pairs(space, "", "") {
			l = append(l, gone(space, p.Key))
		}
	}
	return l
}

// need is what a batch needs.
func (m mind) need(l []kv.Change) int {
	n := 0
	for i, c := range l {
		was := m[place{c.Space, c.Key}]
		for _, o := range l[:i] {
			if o.Space == c.Space && o.Key == c.Key {
				was = o.Value
			}
		}
		n += spare + 2*longOf(c.Value) + 2*longOf(was)
	}
	return n
}

// mustBe asks that a KV is as in mind, in all spaces.
func mustBe(t *testing.T, what string, k *kv.KV, m mind) {
	t.Helper()
	for space := range spaces {
		mustBeIn(t, what, k, m, space)
	}
}

// mustBeIn asks that a space of a KV is as in mind.
func mustBeIn(t *testing.T, what string, k *kv.KV, m mind, space int) {
	t.Helper()
	l, err := k.Range(space, "", "")
	if want := m.pairs(space, "", ""); err != api.OK || !slices.Equal(l, want) {
		t.Fatalf("%s: the space %d: %s, %v, want %s", what, space, shownPairs(l), err, shownPairs(want))
	}
}

// is says whether a KV is as in mind, in some spaces.
func is(t *testing.T, what string, k *kv.KV, m mind, some ...int) bool {
	t.Helper()
	for _, space := range some {
		l, err := k.Range(space, "", "")
		must(t, what+": Range", err, api.OK)
		if !slices.Equal(l, m.pairs(space, "", "")) {
			return false
		}
	}
	return true
}

// longOf is in how many long pages a value stands.
func longOf(value string) int {
	switch n := len(value); {
	case n <= inline:
		return 0
	case n%data == 0:
		return n / data
	default:
		return n/data + 1
	}
}

// text is a text of n bytes of all kinds, which differ with seed.
func text(seed, n int) string {
	b := make([]byte, n)
	x := uint32(seed)*2654435761 + 12345
	for i := range b {
		x = x*1664525 + 1013904223
		b[i] = byte(x >> 24)
	}
	return string(b)
}

// row are the numbers of a row that hangs on its beginning alone.
type row uint32

// next is a number from 0 on, below n.
func (r *row) next(n int) int {
	*r = *r*1664525 + 1013904223
	return int(*r>>8) % n
}

// one is one of a list.
func one[T any](r *row, l []T) T { return l[r.next(len(l))] }

// keeps are n truth values.
func (r *row) keeps(n int) []bool {
	l := make([]bool, n)
	for i := range l {
		l[i] = r.next(2) == 1
	}
	return l
}

// sizes are how long values may be: about each edge.
func sizes() []int {
	return []int{0, 1, 63, 64, 65, 66, 479, 480, 481, 959, 960, 961, 1440, 2000, 8191, 8192}
}

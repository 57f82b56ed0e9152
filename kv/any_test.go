package kv_test

import (
	"fmt"
	"slices"
	"testing"

	"buttery/api"
	"buttery/btree"
	"buttery/disk"
	"buttery/kv"
	"buttery/node"
	"buttery/pager"
)

// seen is what a KV tells, whatever is on its disk.
type seen struct {
	l    []kv.Pair
	err  [6]api.Errno
	free int
}

// look asks a KV for all, in the spaces of drawn calls.
func look(k *kv.KV) seen {
	s := seen{free: k.Free()}
	for i, space := range few() {
		l, err := k.Range(space, "", "")
		s.l, s.err[i] = append(s.l, l...), err
	}
	return s
}

// like says whether two tell the same.
func (s seen) like(o seen) bool {
	return s.free == o.free && s.err == o.err && slices.Equal(s.l, o.l)
}

// mustEnd does drawn calls on a KV of anything: all of them end; one that is refused changes
// nothing. It tells how many were refused since there is no tree.
func mustEnd(t *testing.T, what string, k *kv.KV, r *row, kind int) int {
	t.Helper()
	refused := 0
	was := look(k)
	for i := range 15 {
		space, key := one(r, few()), r.keyOf(kind)
		err := api.OK
		switch r.next(5) {
		case 0:
			_, _, err = k.Get(space, key)
		case 1:
			_, err = k.Range(space, key, r.keyOf(kind))
		case 2:
			_, err = k.Need(r.batch(kind))
		default:
			err = k.Apply(r.batch(kind))
		}
		now := look(k)
		if err != api.OK && !now.like(was) {
			t.Fatalf("%s: call %d: %v, and something was changed", what, i, err)
		}
		was = now
		switch err {
		case api.ErrForm:
			refused++
		case api.OK, api.ErrFull:
		default:
			t.Fatalf("%s: call %d: %v", what, i, err)
		}
	}
	return refused
}

// openAny opens a disk on which anything lies, and does drawn calls. It tells whether it was
// opened, and whether something was refused.
func openAny(t *testing.T, what string, d *disk.Disk, r *row, kind int) (bool, bool) {
	t.Helper()
	k, err := kv.Open(d)
	if err != api.OK {
		mustNotOpen(t, what, k, err, api.ErrForm)
		return false, false
	}
	return true, mustEnd(t, what, k, r, kind) > 0
}

// lived is a disk with a KV that has had drawn batches.
func lived(t *testing.T, n int, r *row, kind int) *disk.Disk {
	t.Helper()
	d, k := mustCreate(t, n)
	for range 5 + r.next(25) {
		if err := k.Apply(r.batch(kind)); err != api.ErrFull {
			must(t, "Apply", err, api.OK)
		}
	}
	return d
}

// spoilSector spoils a sector of a disk: a bit, all of it, or by what another one has.
func spoilSector(t *testing.T, d *disk.Disk, r *row) {
	t.Helper()
	at := r.next(d.Len())
	if r.next(3) > 0 { // where the pages stand that were taken first
		at = d.Len()/4 + r.next(20)
	}
	b, err := d.Read(at)
	must(t, "disk.Read", err, api.OK)
	switch r.next(4) {
	case 0:
		b = []byte(text(r.next(1000), api.SectorSize))
	case 1:
		b, err = d.Read(r.next(d.Len()))
		must(t, "disk.Read", err, api.OK)
	default:
		b[r.next(1+r.next(api.SectorSize))] ^= 1 << r.next(8)
	}
	must(t, "disk.Write", d.Write(at, b), api.OK)
}

// R1: disks of which some sectors were spoiled.
func TestSpoiledSectors(t *testing.T) {
	t.Parallel()
	var opened, refused int
	for seed := range 400 {
		r := row(seed)
		d := lived(t, 250, &r, seed%3)
		p, err := pager.Open(d)
		must(t, "pager.Open", err, api.OK)
		if seed%2 == 0 { // so that it is not the log that says what the pages are
			must(t, "pager.Settle", p.Settle(), api.OK)
		}
		for range 1 + r.next(8) {
			spoilSector(t, d, &r)
		}
		ok, no := openAny(t, fmt.Sprint("seed ", seed), d, &r, seed%3)
		if ok {
			opened++
		}
		if no {
			refused++
		}
	}
	if opened < 20 || opened == 400 || refused < 5 {
		t.Errorf("%d were opened, %d of these refused something", opened, refused)
	}
}

// spoilPage spoils a page in use, under the pager's eyes: so it is opened as it is.
func spoilPage(t *testing.T, p *pager.Pager, r *row) {
	t.Helper()
	at, other := 1+r.next(p.Pages()-p.Free()-1), 1+r.next(p.Pages()-p.Free()-1)
	b, err := p.Read(at)
	if err != api.OK {
		return // it is free: nothing stands there
	}
	switch r.next(7) {
	case 0:
		must(t, "pager.SetRoot", p.SetRoot(at), api.OK)
		return
	case 1:
		if p.Root() != at {
			must(t, "pager.Drop", p.Drop(at), api.OK)
		}
		return
	case 2:
		if c, err := p.Read(other); err == api.OK {
			b = c
		}
	case 3:
		b = make([]byte, api.SectorSize)
	default:
		b[r.next(1+r.next(api.SectorSize))] ^= 1 << r.next(8)
	}
	must(t, "pager.Write", p.Write(at, b), api.OK)
}

// R1: disks whose pages were spoiled, so that they are opened, but what is there is no tree.
func TestSpoiledPages(t *testing.T) {
	t.Parallel()
	refused := 0
	for seed := range 400 {
		r := row(seed)
		d := lived(t, 600, &r, seed%3)
		p, err := pager.Open(d)
		must(t, "pager.Open", err, api.OK)
		for range 1 + r.next(3) {
			if p.Root() != 0 {
				spoilPage(t, p, &r)
			}
		}
		must(t, "pager.Commit", p.Commit(), api.OK)
		what := fmt.Sprint("seed ", seed)
		ok, no := openAny(t, what, d, &r, seed%3)
		if !ok {
			t.Fatalf("%s: it is not opened", what)
		}
		if no {
			refused++
		}
	}
	if refused < 50 || refused == 400 {
		t.Errorf("%d of 400 refused something", refused)
	}
}

// R1: a disk of anything at all; and one with whatever bytes in each page.
func TestAnything(t *testing.T) {
	t.Parallel()
	for seed := range 50 {
		r := row(seed)
		d := mustDisk(t, 64+r.next(100))
		junk(t, d, seed)
		if ok, _ := openAny(t, "junk", d, &r, 0); ok {
			t.Fatal("junk was opened")
		}
		d = mustDisk(t, 250)
		p, err := pager.Format(d)
		must(t, "pager.Format", err, api.OK)
		mustTake(t, p, 20)
		for n := range 20 {
			b := make([]byte, api.SectorSize)
			copy(b, text(r.next(1000), r.next(40)))
			b[0], b[1] = byte(r.next(2)), byte(r.next(4))
			must(t, "pager.Write", p.Write(n+1, b), api.OK)
		}
		must(t, "pager.SetRoot", p.SetRoot(1+r.next(20)), api.OK)
		must(t, "pager.Commit", p.Commit(), api.OK)
		if ok, _ := openAny(t, "pages of anything", d, &r, 0); !ok {
			t.Fatal("it was not opened")
		}
	}
}

// R1: a tree that somebody else laid down, with keys of each length from none on: it is taken as
// what it is.
func TestOtherTrees(t *testing.T) {
	d := mustDisk(t, 1000)
	p, err := pager.Format(d)
	must(t, "pager.Format", err, api.OK)
	tree := btree.New(p)
	for n := range 49 {
		for _, c := range []byte{0, 1, 17, 255} {
			key := slices.Repeat([]byte{c}, n)
			must(t, "btree.Put", tree.Put(string(key), text(n, 3*n)), api.OK)
			must(t, "btree.Commit", tree.Commit(), api.OK)
		}
	}
	r := row(1)
	if ok, no := openAny(t, "another tree", d, &r, 2); !ok || no {
		t.Fatalf("it was opened: %v, something was refused: %v", ok, no)
	}
	k := mustOpen(t, "another tree", d)
	for space := range spaces {
		l, err := k.Range(space, "", "")
		must(t, "Range", err, api.OK)
		for _, p := range l {
			mustGet(t, k, space, p.Key, p.Value)
			mustApply(t, k, gone(space, p.Key))
		}
		mustRange(t, k, space, "", "")
	}
}

// rootless is a disk whose tree's root is none.
func rootless(t *testing.T, n int) *disk.Disk {
	t.Helper()
	d, k := mustCreate(t, n)
	mustApply(t, k, put(1, "a", "1"))
	p, err := pager.Open(d)
	must(t, "pager.Open", err, api.OK)
	must(t, "pager.Write", p.Write(p.Root(), make([]byte, api.SectorSize)), api.OK)
	must(t, "pager.Commit", p.Commit(), api.OK)
	return d
}

// R1, and the order of the table: what the tree answers goes ahead of ErrFull, and behind ErrArg.
func TestNoTree(t *testing.T) {
	k := mustOpen(t, "without a root", rootless(t, 400))
	free := k.Free()
	mustNotGet(t, k, 1, "a", api.ErrForm)
	mustNotGet(t, k, 256, "a", api.ErrArg)
	mustNotGet(t, k, 1, text(1, 48), api.ErrArg)
	mustNotRange(t, k, 2, "", "", api.ErrForm)
	mustNotRange(t, k, 1, "b", "a", api.ErrForm)
	mustNotRange(t, k, -1, "", "", api.ErrArg)
	mustNotRange(t, k, 1, "", text(1, 48), api.ErrArg)
	for _, l := range [][]kv.Change{{put(1, "a", "x")}, {gone(9, "a")}, puts(1, 50, 10)} {
		mustNotApply(t, k, api.ErrForm, l...)
		mustNotNeed(t, k, api.ErrForm, l...)
		mustNotApply(t, k, api.ErrArg, append(l, put(256, "a", "x"))...)
		mustNotNeed(t, k, api.ErrArg, append(l, put(256, "a", "x"))...)
	}
	mustApply(t, k)
	mustNeed(t, k, 0)
	mustFree(t, "refused", k, free)
}

// halfGood is a disk whose tree's first leaf is spoiled, the keys that are there yet, by rising
// keys, and their values.
func halfGood(t *testing.T) (*disk.Disk, []string, string) {
	t.Helper()
	d, k := mustCreate(t, 2000)
	const value = "a value of some length"
	var keys []string
	for i := range 100 {
		keys = append(keys, fmt.Sprint("key ", 100+i))
		mustApply(t, k, put(5, keys[i], value))
	}
	p, err := pager.Open(d)
	must(t, "pager.Open", err, api.OK)
	b, err := p.Read(p.Root())
	must(t, "pager.Read", err, api.OK)
	root, err := node.Decode(b)
	must(t, "node.Decode", err, api.OK)
	if root.Leaf || len(root.Kids) < 4 {
		t.Fatal("the tree has too few leaves")
	}
	must(t, "pager.Write", p.Write(root.Kids[0], make([]byte, api.SectorSize)), api.OK)
	must(t, "pager.Commit", p.Commit(), api.OK)
	k = mustOpen(t, "spoiled", d)
	keys = slices.DeleteFunc(keys, func(key string) bool {
		_, _, err := k.Get(5, key)
		return err != api.OK
	})
	return d, keys, value
}

// P8.3, R4: where the tree refuses a change in the midst of a batch, those ahead of it are not
// done either, and don't come with the next batch.
func TestRefusedInTheMidst(t *testing.T) {
	d, keys, value := halfGood(t)
	good, bad, new := keys[len(keys)-1], keys[0], "new"
	k := mustOpen(t, "spoiled", d)
	mustGet(t, k, 5, bad, value)
	mustNotApply(t, k, api.ErrForm, put(5, bad, "x")) // beside it stands what is spoiled
	free, done := k.Free(), d.Done()
	batch := []kv.Change{put(5, good, text(1, 600)), put(6, new, text(2, 600)), gone(5, keys[len(keys)-2]), put(5, bad, "x")}
	mustNotApply(t, k, api.ErrForm, batch...)
	mustNotApply(t, k, api.ErrForm, put(6, new, "x"), gone(5, bad))
	mustNotApply(t, k, api.ErrFull, append(puts(7, 10, 20), batch...)...)
	mustFree(t, "refused", k, free)
	if d.Done() != done {
		t.Fatal("what was refused was written")
	}
	asIt := func(k *kv.KV) {
		t.Helper()
		mustGet(t, k, 5, good, value)
		mustNotGet(t, k, 6, new, api.OK)
		mustGet(t, k, 5, keys[len(keys)-2], value)
		mustGet(t, k, 5, bad, value)
	}
	asIt(k)
	mustApply(t, k, put(8, "other", "1"))
	asIt(k)
	k = mustOpen(t, "opened", d)
	asIt(k)
	mustGet(t, k, 8, "other", "1")
	mustApply(t, k, put(5, good, "1"), put(6, new, "2"))
	mustGet(t, k, 5, good, "1")
}

package kv_test

import (
	"testing"

	"buttery/api"
	"buttery/disk"
	"buttery/kv"
)

// P8.1: Create and Open of no disk.
func TestNoDisk(t *testing.T) {
	k, err := kv.Create(nil)
	mustNotOpen(t, "Create", k, err, api.ErrNil)
	k, err = kv.Open(nil)
	mustNotOpen(t, "Open", k, err, api.ErrNil)
}

// P8.1: disks of all sizes about the least one; nothing was written to one that is too small.
func TestDisksOfAllSizes(t *testing.T) {
	for _, n := range []int{1, 2, 63, 64, 65, 2000, api.MaxSectors} {
		d := mustDisk(t, n)
		k, err := kv.Open(d)
		mustNotOpen(t, "Open of a new disk", k, err, api.ErrForm)
		k, err = kv.Create(d)
		if n < 64 {
			mustNotOpen(t, "Create", k, err, api.ErrArg)
			if d.Done() != 0 {
				t.Fatalf("%d sectors: Create was refused, and wrote", n)
			}
			continue
		}
		must(t, "Create", err, api.OK)
		free := n - 1 - n/4 - 1
		for _, what := range []string{"created", "opened"} {
			mustFree(t, what, k, free)
			mustMost(t, k, n/8)
			mustBe(t, what, k, mind{})
			k = mustOpen(t, what, d)
		}
	}
}

// P8.1: a dead disk; one that is too small, besides.
func TestDeadDisks(t *testing.T) {
	for _, n := range []int{63, 64, 400} {
		d := mustDisk(t, n)
		want := api.ErrArg
		if n > 63 {
			_, err := kv.Create(d)
			must(t, "Create", err, api.OK)
			want = api.ErrDead
		}
		must(t, "Crash", d.Crash(nil), api.OK)
		k, err := kv.Create(d)
		mustNotOpen(t, "Create", k, err, want)
		k, err = kv.Open(d)
		mustNotOpen(t, "Open", k, err, api.ErrDead)
	}
}

// junk fills a disk with anything.
func junk(t *testing.T, d *disk.Disk, seed int) {
	t.Helper()
	for i := range d.Len() {
		must(t, "disk.Write", d.Write(i, []byte(text(seed+i, api.SectorSize))), api.OK)
	}
	must(t, "disk.Flush", d.Flush(), api.OK)
}

// P8.1: a disk that has something else on it is not opened; Create lets all be new.
func TestSomethingElse(t *testing.T) {
	d := mustDisk(t, 400)
	junk(t, d, 1)
	k, err := kv.Open(d)
	mustNotOpen(t, "Open", k, err, api.ErrForm)
	k, err = kv.Create(d)
	must(t, "Create", err, api.OK)
	mustFree(t, "created", k, 298)
	mustBe(t, "created", k, mind{})
	mustApply(t, k, put(1, "a", "1"), put(1, "b", text(1, 200)))
	k = mustOpen(t, "opened", mustCrash(t, d))
	mustBe(t, "opened", k, mind{}.with(put(1, "a", "1"), put(1, "b", text(1, 200))))
	mustFree(t, "opened", k, 296)
}

// P8.1: Create on a disk that has a KV: what was there is gone, also behind a crash.
func TestCreateOverAKV(t *testing.T) {
	for _, many := range []int{0, 1, 40} {
		d, k := mustCreate(t, 400)
		for i := range many {
			mustApply(t, k, put(i*6, text(i, i), text(i, 20*i)))
		}
		k, err := kv.Create(d)
		must(t, "Create", err, api.OK)
		mustBe(t, "created", k, mind{})
		mustFree(t, "created", k, 298)
		mustBe(t, "opened", mustOpen(t, "opened", d.Copy()), mind{})
		d = mustCrash(t, d)
		k = mustOpen(t, "behind a crash", d)
		mustBe(t, "behind a crash", k, mind{})
		mustFree(t, "behind a crash", k, 298)
		mustApply(t, k, put(6, "new", "1"))
		mustBe(t, "opened", mustOpen(t, "opened", d), mind{}.with(put(6, "new", "1")))
	}
}

// P8.1: Open is as the last Apply that was told left it, whatever was refused since; with a
// crash that keeps nothing, or everything, and without one.
func TestOpenAsApplied(t *testing.T) {
	d, k := mustCreate(t, 600)
	m := mind{}
	for i := range 80 {
		l := []kv.Change{put(i%3, text(i%17, i%12), text(i, 10*i)), gone((i+1)%3, text(i%13, i%12))}
		mustApply(t, k, l...)
		m = m.with(l...)
		mustNotApply(t, k, api.ErrArg, put(0, "refused", "1"), put(256, "refused", "1"))
		mustNotApply(t, k, api.ErrFull, puts(1, 4, 64)...)
		mustFree(t, "opened", mustOpen(t, "opened", d), k.Free())
		mustMost(t, mustOpen(t, "opened", d), 75)
		mustBe(t, "applied", k, m)
		switch i % 4 {
		case 0:
			k = mustOpen(t, "opened", d)
		case 1:
			d = mustCrash(t, d)
			k = mustOpen(t, "crashed", d)
		case 2:
			d = mustCrash(t, d, true, true, true, true, true, true, true, true)
			k = mustOpen(t, "crashed", d)
		}
		mustBe(t, "opened", k, m)
	}
}

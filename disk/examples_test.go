package disk_test

import (
	"testing"

	"buttery/api"
	"buttery/disk"
)

// The chapter's first example: what was not flushed does not last.
func TestExampleOfCrash(t *testing.T) {
	d := mustNew(t, 4)
	must(t, "Write(1, A)", d.Write(1, full('a')), api.OK)
	mustRead(t, d, 1, 'a')
	mustStand(t, "behind Write", d, 1, 1, false)
	must(t, "Crash(none)", d.Crash(nil), api.OK)
	mustNotRead(t, d, 1, api.ErrDead)
	mustRead(t, mustReopen(t, d), 1, 0)
}

// The chapter's second example: a crash that keeps the second write that waits.
func TestExampleOfKeep(t *testing.T) {
	d := mustNew(t, 4)
	must(t, "Write(1, A)", d.Write(1, full('a')), api.OK)
	must(t, "Flush", d.Flush(), api.OK)
	must(t, "Write(1, B)", d.Write(1, full('b')), api.OK)
	must(t, "Write(2, C)", d.Write(2, full('c')), api.OK)
	must(t, "Crash(false true)", d.Crash([]bool{false, true}), api.OK)
	e := mustReopen(t, d)
	mustRead(t, e, 1, 'a')
	mustRead(t, e, 2, 'c')
}

// The chapter's third example: a fuse.
func TestExampleOfFuse(t *testing.T) {
	d := mustNew(t, 4)
	must(t, "Fuse(1, true true true)", d.Fuse(1, []bool{true, true, true}), api.OK)
	must(t, "Write(1, A)", d.Write(1, full('a')), api.OK)
	must(t, "Write(2, B)", d.Write(2, full('b')), api.ErrDead)
	e := mustReopen(t, d)
	mustRead(t, e, 1, 'a')
	mustRead(t, e, 2, 'b')
	must(t, "Fuse(-1, none)", e.Fuse(-1, nil), api.ErrArg)
}

// The example of README.md.
func TestExampleOfReadme(t *testing.T) {
	d, _ := disk.New(4)
	b := make([]byte, api.SectorSize)
	b[0] = 7
	d.Write(1, b)
	d.Flush()
	d.Write(2, b)
	d.Write(3, b)
	d.Crash([]bool{false, true})
	d, _ = d.Reopen()
	for i, want := range []byte{0, 7, 0, 7} {
		if b, err := d.Read(i); err != api.OK || b[0] != want {
			t.Errorf("Read(%d): %v", i, err)
		}
	}
}

package ring_test

import (
	"bytes"
	"testing"

	"buttery/api"
	"buttery/disk"
	"buttery/ring"
)

// The chapter's first example: a ring of 4 sectors is filled.
func exampleOne(t *testing.T) (*disk.Disk, *ring.Ring) {
	t.Helper()
	d := mustDisk(t, 20)
	r, l := mustOpen(t, d, 2, 4, 0)
	mustTell(t, "Open", l, nil)
	mustStand(t, "Open", r, state{base: 0, last: 0, top: 0, room: 4})
	must(t, `Append("ab")`, r.Append([]byte("ab")), api.OK)
	want := append([]byte{1, 0, 0, 0, 0, 0, 0, 0, 1, 2, 0, 'a', 'b'}, make([]byte, api.SectorSize-13)...)
	if b, err := d.Read(3); err != api.OK || !bytes.Equal(b, want) {
		t.Errorf("the sector 3: % X .., %v", b[:min(len(b), 16)], err)
	}
	must(t, "Append of 501 bytes", r.Append(text(501, 1)), api.OK)
	mustStand(t, "501 bytes", r, state{base: 0, last: 2, top: 2, room: 2})
	must(t, "Append of 502 bytes", r.Append(text(502, 2)), api.OK)
	mustStand(t, "502 bytes", r, state{base: 0, last: 4, top: 4, room: 0})
	return d, r
}

// The chapter's first example: what is refused then.
func TestExampleOfAppend(t *testing.T) {
	_, r := exampleOne(t)
	must(t, "Append(none)", r.Append(nil), api.ErrFull)
	must(t, "Append of 2005 bytes", r.Append(text(2005, 3)), api.ErrTooLarge)
}

// The chapter's second example: it is opened once more, and emptied.
func TestExampleOfOpen(t *testing.T) {
	d, r := exampleOne(t)
	all := [][]byte{[]byte("ab"), text(501, 1), text(502, 2)}
	for base, want := range [][][]byte{all, all[1:], all[2:]} {
		_, l := mustOpen(t, d, 2, 4, base)
		mustTell(t, "Open", l, want)
	}
	if n := r.Empty(); n != 4 {
		t.Errorf("Empty: %d, want 4", n)
	}
	must(t, `Append("c")`, r.Append([]byte("c")), api.OK)
	if b, err := d.Read(3); err != api.OK || !bytes.Equal(b, whole(5, []byte("c"))) {
		t.Errorf("the sector 3: % X .., %v", b[:min(len(b), 16)], err)
	}
}

// The chapter's third example: what is refused, and Pieces.
func TestExampleOfRefusals(t *testing.T) {
	d, _ := exampleOne(t)
	mustNotOpen(t, d, 2, 19, 0, api.ErrArg)
	for n, want := range map[int]int{0: 1, 501: 1, 502: 2, -1: 0} {
		if got := ring.Pieces(n); got != want {
			t.Errorf("Pieces(%d): %d, want %d", n, got, want)
		}
	}
}

// The example of README.md.
func TestExampleOfReadme(t *testing.T) {
	d, _ := disk.New(10)
	r, _, _ := ring.Open(d, 2, 4, 0)
	r.Append([]byte("one"))
	r.Sync()
	r.Append([]byte("two"))
	d.Crash(nil)
	d, _ = d.Reopen()
	r, records, _ := ring.Open(d, 2, 4, 0)
	mustTell(t, "the records", records, only([]byte("one")))
	mustStand(t, "the ring", r, state{0, 1, 1, 3})
	base := r.Empty()
	r.Append([]byte("three"))
	_, records, _ = ring.Open(d, 2, 4, base)
	mustTell(t, "the records", records, only([]byte("three")))
}

package seal_test

import (
	"bytes"
	"slices"
	"testing"

	"buttery/api"
	"buttery/seal"
)

// The chapter's first example: sums.
func TestExampleOfSums(t *testing.T) {
	if seal.Sum(nil) != 0 || seal.Sum([]byte("123456789")) != 3421780262 {
		t.Error("Sum")
	}
	if seal.More(seal.Sum([]byte("1234")), []byte("56789")) != 3421780262 {
		t.Error("More")
	}
}

// The chapter's second example: a frame, and what it is refused for.
func TestExampleOfFrames(t *testing.T) {
	b, err := seal.Seal(7, []byte("ab"))
	head := []byte{0x07, 0x02, 0x00, 0x61, 0x62}
	if err != api.OK || len(b) != 9 || !bytes.HasPrefix(b, head) {
		t.Fatalf("% X, %v", b, err)
	}
	sum := seal.Sum(head)
	if !bytes.Equal(b[5:], []byte{byte(sum), byte(sum >> 8), byte(sum >> 16), byte(sum >> 24)}) {
		t.Errorf("the sum: % X of %08X", b[5:], sum)
	}
	mustOpen(t, b, 7, []byte("ab"))
	other := slices.Clone(b)
	other[0] = 6
	mustRefuse(t, other, api.ErrSum)
	mustRefuse(t, b[:len(b)-1], api.ErrForm)
	other = slices.Clone(b)
	other[1] = 3
	mustRefuse(t, other, api.ErrForm)
}

// The chapter's third example: a body that is too long, and none.
func TestExampleOfEdges(t *testing.T) {
	if b, err := seal.Seal(7, make([]byte, 8193)); err != api.ErrTooLarge || len(b) != 0 {
		t.Errorf("%d bytes, %v", len(b), err)
	}
	if b, err := seal.Seal(0, nil); err != api.OK || len(b) != 7 {
		t.Errorf("%d bytes, %v", len(b), err)
	}
}

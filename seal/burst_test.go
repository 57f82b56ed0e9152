package seal_test

import (
	"slices"
	"testing"

	"buttery/api"
	"buttery/seal"
)

// turn turns the bits of b from the place at on by which pattern has a 1; it tells false
// if one of them is past the end.
func turn(b []byte, at int, pattern uint32) bool {
	for i := range 32 {
		if pattern>>i&1 == 0 {
			continue
		}
		if at+i >= 8*len(b) {
			return false
		}
		b[(at+i)/8] ^= 1 << ((at + i) % 8)
	}
	return true
}

// mustSeeTurned asks that a frame is refused with such bits turned from a place on: by
// ErrForm just where its length is another one.
func mustSeeTurned(t *testing.T, frame []byte, at int, pattern uint32) {
	t.Helper()
	b := slices.Clone(frame)
	if !turn(b, at, pattern) {
		return
	}
	want := api.ErrSum
	if b[1] != frame[1] || b[2] != frame[2] {
		want = api.ErrForm
	}
	kind, body, err := seal.Open(b)
	if err != want || kind != 0 || len(body) != 0 {
		t.Errorf("%d bytes, turned at %d by %08X: %d, %d bytes, %v, want %v", len(b), at, pattern, kind, len(body), err, want)
	}
}

// frames are frames in which bits are turned.
func frames() [][]byte {
	return [][]byte{
		plainFrame(0, nil), plainFrame(255, nil), plainFrame(7, []byte("ab")), plainFrame(1, make([]byte, 9)),
		plainFrame(200, text(31, 1)), plainFrame(18, text(300, 2)),
	}
}

// P2.4: one bit, wherever; also in a frame of the greatest size.
func TestOneBit(t *testing.T) {
	for _, b := range append(frames(), plainFrame(2, text(1500, 3))) {
		for at := range 8 * len(b) {
			mustSeeTurned(t, b, at, 1)
		}
	}
	large := plainFrame(2, text(api.MaxBody, 4))
	for at := 0; at < 8*len(large); at += 1021 {
		mustSeeTurned(t, large, at, 1)
	}
}

// P2.4: two bits within 32, wherever.
func TestTwoBits(t *testing.T) {
	for _, b := range frames() {
		for at := range 8 * len(b) {
			for apart := range 31 {
				mustSeeTurned(t, b, at, 1|1<<(apart+1))
			}
		}
	}
}

// P2.4: several bits within 32, wherever: all of a length, and mixed ones.
func TestBursts(t *testing.T) {
	patterns := []uint32{0xEDB88320, 0xDB710641, 0xFFFFFFFF, 0x80000001, 0xAAAAAAAB, 0xC0000003, 0x00010001}
	for n := range 31 {
		patterns = append(patterns, uint32(1)<<(n+2)-1)
	}
	seed := uint32(1)
	for range 60 {
		seed = seed*1664525 + 1013904223
		patterns = append(patterns, seed|1)
	}
	for _, b := range frames() {
		for at := range 8 * len(b) {
			for _, x := range patterns {
				mustSeeTurned(t, b, at, x)
			}
		}
	}
}

package seal_test

import (
	"bytes"
	"testing"

	"buttery/api"
	"buttery/seal"
)

// plainSum is the sum of b, reckoned bit by bit as the chapter's words say it.
func plainSum(b []byte) uint32 {
	r := uint32(0xFFFFFFFF)
	for _, x := range b {
		r ^= uint32(x)
		for range 8 {
			low := r & 1
			r >>= 1
			if low == 1 {
				r ^= 0xEDB88320
			}
		}
	}
	return ^r
}

// plainFrame is the frame of a kind and a body of whatever length, put together by hand;
// of a length above 65535 the head tells the two lowest bytes.
func plainFrame(kind uint8, body []byte) []byte {
	b := []byte{kind, byte(len(body) & 0xFF), byte(len(body) / 256 & 0xFF)}
	return withSum(append(b, body...))
}

// withSum puts the sum of b behind b.
func withSum(b []byte) []byte {
	s := plainSum(b)
	return append(b[:len(b):len(b)], byte(s), byte(s>>8), byte(s>>16), byte(s>>24))
}

// text is some bytes of a length, which differ with seed.
func text(n int, seed uint32) []byte {
	b := make([]byte, n)
	for i := range b {
		seed = seed*1664525 + 1013904223
		b[i] = byte(seed >> 24)
	}
	return b
}

// lengths are bodies' lengths: all small ones, and those at the edges.
func lengths() []int {
	var l []int
	for n := range 70 {
		l = append(l, n)
	}
	return append(l, 255, 256, 257, 511, 512, 1000, 4095, 4096, api.MaxBody-1, api.MaxBody)
}

// mustSeal is the frame of a kind and a body that may be.
func mustSeal(t *testing.T, kind uint8, body []byte) []byte {
	t.Helper()
	b, err := seal.Seal(kind, body)
	if err != api.OK {
		t.Fatalf("Seal(%d, %d bytes): %v", kind, len(body), err)
	}
	return b
}

// mustRefuse asks that Open refuses b by an error, and tells nothing else.
func mustRefuse(t *testing.T, b []byte, want api.Errno) {
	t.Helper()
	kind, body, err := seal.Open(b)
	if err != want || kind != 0 || len(body) != 0 {
		t.Errorf("Open of %d bytes, % X ..: %d, %d bytes, %v, want %v", len(b), b[:min(len(b), 12)], kind, len(body), err, want)
	}
}

// mustOpen asks that b is the frame of a kind and a body.
func mustOpen(t *testing.T, b []byte, kind uint8, body []byte) {
	t.Helper()
	k, got, err := seal.Open(b)
	if err != api.OK || k != kind || !bytes.Equal(got, body) {
		t.Errorf("Open of %d bytes: %d, %d bytes, %v, want %d, %d bytes", len(b), k, len(got), err, kind, len(body))
	}
}

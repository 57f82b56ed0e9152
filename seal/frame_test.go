package seal_test

import (
	"bytes"
	"slices"
	"testing"

	"buttery/api"
	"buttery/seal"
)

// P2.2: a frame byte by byte, of bodies of many lengths and kinds at the edges.
func TestSealByTheWords(t *testing.T) {
	for _, n := range lengths() {
		for _, kind := range []uint8{0, 1, 7, 128, 255} {
			body := text(n, uint32(n)+uint32(kind))
			if got := mustSeal(t, kind, body); !bytes.Equal(got, plainFrame(kind, body)) {
				t.Errorf("Seal(%d, %d bytes): % X ..", kind, n, got[:min(len(got), 12)])
			}
		}
	}
}

// P2.2: all kinds, with no body and with one byte; nil is an empty body.
func TestAllKinds(t *testing.T) {
	for k := range 256 {
		kind := uint8(k)
		for _, body := range [][]byte{nil, {}, {byte(^k)}} {
			b := mustSeal(t, kind, body)
			if !bytes.Equal(b, plainFrame(kind, body)) {
				t.Errorf("Seal(%d, % X): % X", kind, body, b)
			}
			mustOpen(t, b, kind, body)
		}
	}
}

// P2.2: a body that is too long.
func TestSealTooLarge(t *testing.T) {
	for _, n := range []int{api.MaxBody + 1, api.MaxBody + 2, 65535, 65536, 65536 + 10, 1 << 20} {
		b, err := seal.Seal(9, make([]byte, n))
		if err != api.ErrTooLarge || len(b) != 0 {
			t.Errorf("Seal of %d bytes: %d bytes, %v", n, len(b), err)
		}
	}
}

// P2.2, P2.3: Open tells what Seal was handed.
func TestOpenUndoesSeal(t *testing.T) {
	for _, n := range lengths() {
		for _, kind := range []uint8{0, 1, 200, 255} {
			body := text(n, 3*uint32(n)+uint32(kind))
			mustOpen(t, mustSeal(t, kind, body), kind, body)
		}
	}
}

// P2.2: Open takes frames that were put together by hand.
func TestOpenByTheWords(t *testing.T) {
	for _, n := range lengths() {
		body := text(n, 11)
		mustOpen(t, plainFrame(77, body), 77, body)
	}
}

// P2.2: fewer than 7 bytes, even if they end with the sum of what is ahead.
func TestOpenOfTooFew(t *testing.T) {
	for n := range 7 {
		mustRefuse(t, make([]byte, n), api.ErrForm)
		mustRefuse(t, text(n, 1), api.ErrForm)
		if n >= 4 {
			mustRefuse(t, withSum(make([]byte, n-4)), api.ErrForm)
		}
	}
	mustRefuse(t, nil, api.ErrForm)
}

// P2.2: a length that says more or fewer than there are, with sums that are right, too.
func TestOpenOfOtherLengths(t *testing.T) {
	for _, n := range []int{0, 1, 2, 3, 255, 256, 257, 300, api.MaxBody} {
		good := plainFrame(5, text(n, 4))
		for _, says := range []int{0, 1, n - 257, n - 256, n - 1, n + 1, n + 2, n + 7, n + 255, n + 256, n + 257, api.MaxBody, api.MaxBody + 1, 65535} {
			if says == n || says < 0 || says > 65535 {
				continue
			}
			b := slices.Clone(good[:3+n])
			b[1], b[2] = byte(says), byte(says>>8)
			mustRefuse(t, withSum(b), api.ErrForm)
			mustRefuse(t, append(b, good[3+n:]...), api.ErrForm)
		}
	}
}

// P2.2: bytes that are lacking or too many at the end.
func TestOpenOfCutAndLonger(t *testing.T) {
	good := plainFrame(8, text(40, 6))
	for n := range good {
		mustRefuse(t, good[:n], api.ErrForm)
	}
	for more := range 10 {
		mustRefuse(t, append(slices.Clone(good), make([]byte, more+1)...), api.ErrForm)
	}
}

// P2.2: a body above the limit is refused though all else is right; at the limit it is taken.
func TestOpenOfTooMuch(t *testing.T) {
	body := text(api.MaxBody, 1)
	mustOpen(t, plainFrame(3, body), 3, body)
	for _, n := range []int{api.MaxBody + 1, api.MaxBody + 2, api.MaxBody + 256, 65535} {
		mustRefuse(t, plainFrame(3, text(n, 1)), api.ErrForm)
	}
	// Of a length beyond two bytes the head tells the lowest ones alone.
	for _, n := range []int{65536, 65536 + 5, 65536 + api.MaxBody, 131072 + 7} {
		mustRefuse(t, plainFrame(3, text(n, 1)), api.ErrForm)
	}
}

// P2.2: ErrForm is told ahead of ErrSum.
func TestFormAheadOfSum(t *testing.T) {
	b := plainFrame(8, text(5, 6))
	b[len(b)-1] ^= 1
	mustRefuse(t, b, api.ErrSum)
	mustRefuse(t, b[:len(b)-1], api.ErrForm)
	mustRefuse(t, append(slices.Clone(b), 0), api.ErrForm)
	b[1]++
	mustRefuse(t, b, api.ErrForm)
	long := plainFrame(8, text(api.MaxBody+1, 6))
	long[0]++
	mustRefuse(t, long, api.ErrForm)
}

// P2.2: other sums: each of the four bytes counts, and their order.
func TestOpenOfOtherSums(t *testing.T) {
	for _, n := range []int{0, 1, 33, api.MaxBody} {
		good := plainFrame(21, text(n, 8))
		for i := len(good) - 4; i < len(good); i++ {
			for x := range 255 {
				b := slices.Clone(good)
				b[i] ^= byte(x + 1)
				mustRefuse(t, b, api.ErrSum)
			}
		}
		b := slices.Clone(good)
		slices.Reverse(b[len(b)-4:])
		mustRefuse(t, b, api.ErrSum)
		mustRefuse(t, append(slices.Clone(good[:3+n]), 0, 0, 0, 0), api.ErrSum)
	}
}

// P2.2: another kind or another body behind the same sum.
func TestOpenOfOtherBytes(t *testing.T) {
	good := plainFrame(21, text(20, 8))
	for i := range good[:23] {
		if i == 1 || i == 2 {
			continue
		}
		for x := range 255 {
			b := slices.Clone(good)
			b[i] ^= byte(x + 1)
			mustRefuse(t, b, api.ErrSum)
		}
	}
	b := slices.Clone(good)
	b[5], b[6] = b[6], b[5]
	mustRefuse(t, b, api.ErrSum)
}

// P2.3: of all short bytes, and of many that are nearly frames: what Open takes is what
// Seal makes of it.
func TestTakenIsSealed(t *testing.T) {
	taken := 0
	look := func(b []byte) {
		kind, body, err := seal.Open(b)
		if err != api.OK {
			return
		}
		taken++
		if again := mustSeal(t, kind, body); !bytes.Equal(again, b) {
			t.Errorf("% X was taken, but Seal makes % X of it", b, again)
		}
	}
	for n := range 12 {
		for length := range 512 {
			for _, kind := range []byte{0, 1, 255} {
				b := append([]byte{kind, byte(length), byte(length >> 8)}, text(n, uint32(length))...)
				look(b)
				look(withSum(b))
				look(append(withSum(b), 0))
			}
		}
	}
	if taken < 36 {
		t.Errorf("only %d were taken", taken)
	}
}

// filled are n bytes of a room that is larger, and filled.
func filled(n int) []byte { return text(n+100, 13)[:n] }

// R3: what is handed in stays, with the room behind its end, and nothing there is read.
func TestHandedInStays(t *testing.T) {
	for _, n := range []int{0, 1, 40, api.MaxBody} {
		body := filled(n)
		was := slices.Clone(body[:cap(body)])
		b := mustSeal(t, 4, body)
		if !bytes.Equal(body[:cap(body)], was) {
			t.Errorf("Seal changed its body of %d bytes, or the room behind", n)
		}
		roomy := append(b, text(100, 14)...)[:len(b)]
		was = slices.Clone(roomy[:cap(roomy)])
		mustOpen(t, roomy, 4, body)
		if !bytes.Equal(roomy[:cap(roomy)], was) {
			t.Errorf("Open changed its frame of %d bytes, or the room behind", n)
		}
	}
}

// R3: a length that says more than there are is refused, though the room behind has it.
func TestRoomIsNotRead(t *testing.T) {
	good := plainFrame(6, text(30, 2))
	for n := range good {
		mustRefuse(t, good[:n], api.ErrForm)
	}
	for n := range 7 {
		mustRefuse(t, plainFrame(0, nil)[:n], api.ErrForm)
	}
}

// spoil writes over b, with its spare room.
func spoil(b []byte) {
	b = b[:cap(b)]
	for i := range b {
		b[i] ^= 0xA5
	}
}

// R3: answers are new memory, and nothing is kept of them or of what was handed in.
func TestAnswersAreNew(t *testing.T) {
	body := filled(40)
	was := slices.Clone(body)
	first := mustSeal(t, 4, body)
	second := mustSeal(t, 4, body)
	want := slices.Clone(first)
	spoil(first)
	if !bytes.Equal(second, want) || !bytes.Equal(body, was) {
		t.Error("a frame shares memory with another one, or with its body")
	}
	_, one, _ := seal.Open(second)
	_, two, _ := seal.Open(second)
	spoil(one)
	if !bytes.Equal(two, was) || !bytes.Equal(second, want) {
		t.Error("a body shares memory with another one, or with its frame")
	}
	spoil(second)
	spoil(body)
	if !bytes.Equal(two, was) {
		t.Error("a body shares memory with its frame")
	}
	mustOpen(t, mustSeal(t, 4, two), 4, was)
}

package code_test

import (
	"syscall"
	"testing"
	"unsafe"

	"buttery/api"
	"buttery/code"
)

// P1.1: Str of a text that is longer than 2^31 - 1 bytes is b alone. The text is mapped
// and not made: nobody reads it, so it takes none of the machine's memory.
func TestStrOfTooLong(t *testing.T) {
	room := api.MaxCount
	room++
	if room < 0 {
		t.Skip("no text is so long")
	}
	text, err := syscall.Mmap(-1, 0, room, syscall.PROT_READ, syscall.MAP_ANON|syscall.MAP_PRIVATE|syscall.MAP_NORESERVE)
	if err != nil {
		t.Skip("there is no room for such a text:", err)
	}
	defer syscall.Munmap(text)
	for _, b := range []string{"", "ahead"} {
		if got := code.Str([]byte(b), unsafe.String(&text[0], len(text))); string(got) != b {
			t.Fatalf("Str(%q, 2^31 bytes): %d bytes, want %q", b, len(got), b)
		}
	}
}

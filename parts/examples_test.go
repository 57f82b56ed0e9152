package parts_test

import (
	"slices"
	"testing"

	"buttery/api"
	"buttery/parts"
)

// The chapter's first example.
func TestFirstExample(t *testing.T) {
	j := parts.New()
	l := mustCut(t, 5, "ab")
	if len(l) != 1 {
		t.Fatal(len(l))
	}
	mustTell(t, j, 1, l[0], "ab", 0)
	msg := message(1, 381)
	l = mustCut(t, 5, msg)
	if len(l) != 2 {
		t.Fatal(len(l))
	}
	mustWait(t, j, 1, l[1], 1)
	mustWait(t, j, 2, l[0], 2)
	mustTell(t, j, 1, l[0], msg, 1)
}

// The chapter's second example.
func TestSecondExample(t *testing.T) {
	j := parts.New()
	mustNotTake(t, j, 1, []byte("x"), api.ErrForm)
	changed := mustCut(t, 5, "ab")[0]
	changed[8]++
	mustNotTake(t, j, 1, changed, api.ErrSum)
	mustNotCut(t, -1, 2, api.ErrArg)
	mustNotCut(t, 0, 8193, api.ErrTooLarge)
	if l := mustCut(t, 0, ""); len(l) != 1 {
		t.Error(len(l))
	}
	if l := mustCut(t, 0, message(1, 8192)); len(l) != 22 {
		t.Error(len(l))
	}
}

// The limits are those of the chapter.
func TestLimits(t *testing.T) {
	got := []int{parts.Data, parts.MaxParts, parts.MaxWaits, api.MaxBody, api.MaxPacket, api.MaxCount}
	if want := []int{maxData, maxParts, maxWaits, maxBody, maxPacket, maxCount}; !slices.Equal(got, want) {
		t.Error(got)
	}
}

// The example of README.md.
func TestExampleOfReadme(t *testing.T) {
	long := []byte(message(1, 1000))
	packets, _ := parts.Cut(7, long)
	if len(packets) != 3 {
		t.Fatal(len(packets))
	}
	j := parts.New()
	j.Take(1, packets[2])
	j.Take(1, packets[0])
	j.Take(1, packets[0])
	if msg, whole, err := j.Take(2, packets[1]); len(msg) > 0 || whole || err != api.OK {
		t.Error(msg, whole, err)
	}
	if msg, whole, err := j.Take(1, packets[1]); string(msg) != string(long) || !whole || err != api.OK {
		t.Error(len(msg), whole, err)
	}
	if n := j.Len(); n != 1 {
		t.Error(n)
	}
}

package kv_test

import (
	"testing"

	"buttery/api"
	"buttery/kv"
)

// The examples, one behind the other.
func TestExamples(t *testing.T) {
	_, k := mustCreate(t, 2000)
	mustMost(t, k, 250)
	hundred := text(1, 100)

	// 1.
	first := []kv.Change{put(1, "a", hundred), put(1, "b", "x")}
	mustNeed(t, k, 24+2+24, first...)
	mustApply(t, k, first...)
	mustGet(t, k, 1, "a", hundred)
	mustNotGet(t, k, 2, "a", api.OK)
	mustRange(t, k, 1, "a", "b", kv.Pair{Key: "a", Value: hundred})
	mustNeed(t, k, 24+2+24+2, put(1, "a", "x"), put(1, "a", hundred))

	// 2.
	mustApply(t, k, gone(1, "a"), put(1, "c", "z"))
	mustRange(t, k, 1, "", "", kv.Pair{Key: "b", Value: "x"}, kv.Pair{Key: "c", Value: "z"})
	mustNeed(t, k, 264, puts(1, 11, 1)...)
	mustNotApply(t, k, api.ErrFull, puts(1, 11, 1)...)
	mustNotApply(t, k, api.ErrArg, put(256, "a", "x"))
	mustNotApply(t, k, api.ErrArg, put(1, text(1, 48), "x"))
	mustNotApply(t, k, api.ErrArg, put(1, "a", text(1, 8193)))
	mustNotApply(t, k, api.ErrArg, kv.Change{Space: 1, Key: "a", Value: "x", Gone: true})
	mustApply(t, k)
	mustRange(t, k, 1, "", "", kv.Pair{Key: "b", Value: "x"}, kv.Pair{Key: "c", Value: "z"})
}

package btree_test

import (
	"strings"
	"testing"

	"buttery/api"
	"buttery/btree"
)

// Example 1.
func TestExample1(t *testing.T) {
	tree := mustTree(t, 2000)
	mustFree(t, "new", tree, 1498)
	mustNotGet(t, tree, "a", api.OK)
	long := text(1, 1000)
	mustPut(t, tree, "b", "1")
	mustPut(t, tree, "a", long)
	mustRange(t, tree, "", "", []btree.Cell{{Key: "a", Value: long}, {Key: "b", Value: "1"}})
	mustRange(t, tree, "a", "b", []btree.Cell{{Key: "a", Value: long}})
	must(t, "Commit", tree.Commit(), api.OK)
	mustFree(t, "two pairs", tree, 1494)
	mustDel(t, tree, "a", true)
	must(t, "Commit", tree.Commit(), api.OK)
	mustFree(t, "one pair", tree, 1497)
}

// Example 2.
func TestExample2(t *testing.T) {
	tree := mustTree(t, 2000)
	mustNotPut(t, tree, strings.Repeat("k", 49), "..", api.ErrArg)
	mustNotPut(t, tree, "a", strings.Repeat("v", 8193), api.ErrArg)
	tree = mustTree(t, 64)
	mustFree(t, "new", tree, 46)
	mustPut(t, tree, "a", text(1, 8192))
	mustFree(t, "a", tree, 27)
	mustPut(t, tree, "b", text(2, 1000))
	mustFree(t, "b", tree, 24)
	mustNotPut(t, tree, "c", text(3, 500), api.ErrFull)
}

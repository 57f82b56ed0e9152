package rlog_test

import (
	"slices"
	"testing"

	"buttery/api"
	"buttery/rlog"
)

// The chapter's first example.
func TestExample1(t *testing.T) {
	g := mustNew(t, 5, 1, noops(1, 2))
	mustStand(t, "made", g, thought(5, 1, noops(1, 2)))
	if i, term := g.Base(); i != 5 || term != 1 {
		t.Error("Base:", i, term)
	}
	if i, term := g.Last(); i != 7 || term != 2 {
		t.Error("Last:", i, term)
	}
	if term, ok := g.Term(5); term != 1 || !ok {
		t.Error("Term(5):", term, ok)
	}
	if term, ok := g.Term(8); term != 0 || ok {
		t.Error("Term(8):", term, ok)
	}
	if l := g.From(7, 9); !sameAll(l, noops(2)) {
		t.Error("From(7, 9):", l)
	}
	if !g.Above(7, 2) || g.Above(6, 2) || !g.Above(1, 3) {
		t.Error("Above:", g.Above(7, 2), g.Above(6, 2), g.Above(1, 3))
	}
}

// The chapter's second example.
func TestExample2(t *testing.T) {
	g := mustNew(t, 5, 1, noops(1, 2))
	mustMerge(t, g, 6, 1, noops(2, 2), 8, api.OK)
	mustMerge(t, g, 6, 2, noops(2), 0, api.ErrState)
	mustMerge(t, g, 3, 1, noops(1, 1, 1, 2), 0, api.OK)
	mustStand(t, "merged", g, thought(5, 1, noops(1, 2, 2)))
	mustMerge(t, g, 5, 1, noops(3), 6, api.OK)
	if i, term := g.Last(); i != 6 || term != 3 {
		t.Error("Last:", i, term)
	}
}

// The chapter's third example.
func TestExample3(t *testing.T) {
	g := mustNew(t, 5, 1, noops(1, 2))
	mustCut(t, g, 6, api.OK)
	if i, term := g.Base(); i != 6 || term != 1 {
		t.Error("Base:", i, term)
	}
	mustCut(t, g, 8, api.ErrArg)
	mustWrite(t, noop(1), fromHex("01 01 00 00"))
	mustRead(t, fromHex("01 01 00 00"), noop(1))
}

// The example of README.md.
func TestExampleOfReadme(t *testing.T) {
	g, _ := rlog.New(0, 0, nil)
	g.Append(api.Entry{Term: 1, Kind: api.Noop})
	g.Append(api.Entry{Term: 1, Kind: api.Members, List: []int{1, 2}})
	mustMerge(t, g, 2, 1, []api.Entry{change(1, "x"), change(1, "y")}, 3, api.OK)
	mustMerge(t, g, 2, 1, []api.Entry{change(1, "x")}, 0, api.OK)
	mustMerge(t, g, 3, 1, []api.Entry{change(2, "z")}, 4, api.OK)
	mustMerge(t, g, 4, 1, nil, 0, api.ErrState)
	if l, ok := g.Members(4); !slices.Equal(l, []int{1, 2}) || !ok {
		t.Error("Members(4):", l, ok)
	}
	if g.Above(9, 1) || !g.Above(4, 2) {
		t.Error("Above:", g.Above(9, 1), g.Above(4, 2))
	}
	c := g.Copy()
	mustCut(t, g, 3, api.OK)
	if l := g.From(1, 10); !sameAll(l, []api.Entry{change(2, "z")}) {
		t.Error("From(1, 10):", l)
	}
	if l := c.From(1, 1); !sameAll(l, noops(1)) {
		t.Error("From(1, 1) of the copy:", l)
	}
	e := change(2, "z")
	mustRead(t, mustWrite(t, e, fromHex("02 02 01 7A 00")), e)
}

package call_test

import (
	"testing"

	"buttery/api"
	"buttery/call"
)

// The chapter's example.
func TestExample(t *testing.T) {
	c := mustNew(t, 3)
	a := marked(at(wait(3145729, "a", 201, 5, 10), 14))
	b := wait(3145730, "b", 201, 6, 12)
	mustAsk(t, c, "a", 201, 5, 10, 3145729)
	mustAsk(t, c, "b", 201, 6, 12, 3145730)
	mustMark(t, c, "a", 1)
	mustDue(t, c, 14, 4, a)
	mustDue(t, c, 14, 4)
	mustOld(t, c, 22, 10, a, b)
	mustNotTell(t, c, 3145729)
	for _, life := range []int{0, 2048} {
		if c, err := call.New(life); err != api.ErrArg || c != nil {
			t.Errorf("New(%d): %v", life, err)
		}
	}
}

// The limits are those of the chapter.
func TestLimits(t *testing.T) {
	if call.MaxWaits != maxWaits || call.MaxLife != maxLife {
		t.Error(call.MaxWaits, call.MaxLife)
	}
}

// The example of README.md.
func TestExampleOfReadme(t *testing.T) {
	c, _ := call.New(3)
	r, _ := c.Ask("k", 201, 5, 10)
	s, _ := c.Ask("k", 202, 6, 12)
	if s != r+1 {
		t.Error(r, s)
	}
	first := at(wait(r, "k", 201, 5, 10), 14)
	mustDue(t, c, 14, 4, first)
	mustMark(t, c, "k", 2)
	mustTell(t, c, marked(first))
	mustNotTell(t, c, r)
	mustOld(t, c, 22, 10, marked(wait(s, "k", 202, 6, 12)))
	mustNotAsk(t, c, -1, api.ErrArg)
}

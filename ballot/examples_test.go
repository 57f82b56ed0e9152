package ballot_test

import (
	"testing"

	"buttery/api"
)

// The chapter's first example.
func TestExample1(t *testing.T) {
	mustWin(t, list(1, 2, 3), list(1, 3), true)
	mustWin(t, list(1, 2, 3), list(1, 1, 4), false)
	mustWin(t, list(1), list(1), true)
	mustWin(t, nil, list(1), false)
	mustHaveCommon(t, list(1, 2, 3), list(5, 7, 2), 5)
	mustHaveCommon(t, list(2, 3), list(9, 4), 0)
	mustHaveCommon(t, list(1, 2), list(9, 4), 4)
}

// The chapter's second example.
func TestExample2(t *testing.T) {
	mustBeNewer(t, 2, 1, 1, 9, true)
	mustBeNewer(t, 1, 3, 1, 3, true)
	mustBeNewer(t, 1, 2, 1, 3, false)
	mustGrant(t, 3, 0, 3, 1, true, true)
	mustGrant(t, 3, 2, 4, 1, true, true)
	mustGrant(t, 3, 2, 3, 1, true, false)
	mustGrant(t, 3, 0, 2, 1, true, false)
}

// The chapter's third example.
func TestExample3(t *testing.T) {
	mustTurn(t, list(1, 2), 3, 1, 2, 3)
	mustTurn(t, list(1, 2), 1, 2)
	mustNotTurn(t, list(1), 1, api.ErrState)
	mustNotTurn(t, list(2, 1), 3, api.ErrArg)
	mustNotTurn(t, list(1), 6, api.ErrArg)
	mustBeNear(t, list(1, 2), list(1, 2, 3), true)
	mustBeNear(t, list(1, 2), list(1, 3), false)
	mustWait(t, 10, 3, 12)
}

// The example of README.md.
func TestExampleOfReadme(t *testing.T) {
	voters := list(1, 2, 3)
	mustCheck(t, voters, true)
	mustWin(t, voters, list(1, 3), true)
	mustWin(t, voters, list(1, 1, 4), false)
	mustHaveCommon(t, voters, list(5, 7, 2), 5)
	mustBeNewer(t, 2, 1, 1, 9, true)
	mustGrant(t, 3, 0, 3, 1, true, true)
	mustGrant(t, 3, 2, 3, 1, true, false)
	mustGrant(t, 3, 2, 4, 1, true, true)
	next := mustTurn(t, voters, 5, 1, 2, 3, 5)
	mustTurn(t, next, 1, 2, 3, 5)
	mustNotTurn(t, list(1), 1, api.ErrState)
	mustBeNear(t, voters, next, true)
	mustBeNear(t, voters, list(2, 3, 5), false)
	mustWait(t, 10, 3, 12)
}

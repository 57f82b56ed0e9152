package dedup_test

import (
	"math/big"
	"slices"

	"buttery/api"
)

// The chapter done as plainly as can be: what stands in a list is gathered from its parts, with
// no word of how the package does it.

// mindCheck is what Check says.
func mindCheck(op api.Op) api.Errno {
	switch op.Kind {
	case 1, 2, 3, 4:
	default:
		return api.ErrArg
	}
	if n := len(op.Key); n < 1 || n > maxKey || len(op.Value) > maxValue || len(op.Old) > maxValue {
		return api.ErrTooLarge
	}
	return api.OK
}

// mindPlace is a key's shard.
func mindPlace(key string, shards int) int {
	if shards < 1 {
		return 0
	}
	sum := new(big.Int)
	for _, b := range []byte(key) {
		sum.Add(sum, big.NewInt(int64(b)))
	}
	return int(sum.Mod(sum, big.NewInt(int64(shards))).Int64())
}

// places are the places in a list of what is asked for.
func places[T any](l []T, is func(T) bool) []int {
	var at []int
	for i, x := range l {
		if is(x) {
			at = append(at, i)
		}
	}
	return at
}

// mindPut is a list with x in the first place that is x's; else at the first one that is behind
// it; else last.
func mindPut[T any](l []T, x T, same, behind func(T) bool) []T {
	out := slices.Clone(l)
	if at := places(l, same); len(at) > 0 {
		out[at[0]] = x
		return out
	}
	at := append(places(l, behind), len(l))
	return append(append(slices.Clone(l[:at[0]]), x), l[at[0]:]...)
}

// mindDo is what an operation that may be does.
func mindDo(m []api.Pair, op api.Op) ([]api.Pair, api.Result) {
	has := places(m, func(p api.Pair) bool { return p.Key == op.Key })
	with := mindPut(m, api.Pair{Key: op.Key, Value: op.Value},
		func(p api.Pair) bool { return p.Key == op.Key }, func(p api.Pair) bool { return p.Key > op.Key })
	switch {
	case op.Kind == 1 && len(has) == 0:
		return m, api.Result{Kind: 1}
	case op.Kind == 1:
		return m, api.Result{Kind: 1, Found: true, Value: m[has[0]].Value}
	case op.Kind == 2:
		return with, api.Result{Kind: 1}
	case op.Kind == 3:
		var left []api.Pair
		for i, p := range m {
			if !slices.Contains(has, i) {
				left = append(left, p)
			}
		}
		return left, api.Result{Kind: 1, Found: len(has) > 0}
	case op.Had && len(has) > 0 && m[has[0]].Value == op.Old, !op.Had && len(has) == 0:
		return with, api.Result{Kind: 1, Found: true}
	}
	return m, api.Result{Kind: 1}
}

// mindSeen is the result of a client's last write.
func mindSeen(l []api.Last, client, id int) (api.Result, api.Errno) {
	at := places(l, func(x api.Last) bool { return x.Client == client })
	switch {
	case len(at) > 0 && l[at[0]].ID > id:
		return api.Result{}, api.ErrTwice
	case len(at) > 0 && l[at[0]].ID == id:
		return l[at[0]].Result, api.OK
	}
	return api.Result{}, api.ErrNone
}

// mindNote is a list in which a write is noted.
func mindNote(l []api.Last, x api.Last) []api.Last {
	return mindPut(l, x,
		func(y api.Last) bool { return y.Client == x.Client }, func(y api.Last) bool { return y.Client > x.Client })
}

// mindStep is what a request does.
func mindStep(s lists, client, id int, op api.Op) (lists, api.Result, api.Errno) {
	if err := mindCheck(op); err != api.OK {
		return lists{}, api.Result{}, err
	}
	if op.Kind == 1 {
		return lists{}, api.Result{}, api.ErrArg
	}
	switch r, err := mindSeen(s.l, client, id); err {
	case api.OK:
		return s, r, api.OK
	case api.ErrTwice:
		return lists{}, api.Result{}, api.ErrTwice
	}
	m, r := mindDo(s.m, op)
	return lists{m, mindNote(s.l, last(client, id, r))}, r, api.OK
}

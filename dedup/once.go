package dedup

import (
	"cmp"
	"slices"

	"buttery/api"
)

// Seen is the result of a client's last write.
func Seen(l []api.Last, client, id int) (api.Result, api.Errno) {
	i := slices.IndexFunc(l, func(x api.Last) bool { return x.Client == client })
	switch {
	case i < 0 || l[i].ID < id:
		return api.Result{}, api.ErrNone
	case l[i].ID > id:
		return api.Result{}, api.ErrTwice
	}
	return l[i].Result, api.OK
}

// Note notes a client's last write.
func Note(l []api.Last, last api.Last) []api.Last {
	return put(slices.Clone(l), last, func(x api.Last) int { return cmp.Compare(x.Client, last.Client) })
}

// Step does a write once.
func Step(m []api.Pair, l []api.Last, client, id int, op api.Op) ([]api.Pair, []api.Last, api.Result, api.Errno) {
	if err := checkWrite(op); err != api.OK {
		return nil, nil, api.Result{}, err
	}
	r, err := Seen(l, client, id)
	switch err {
	case api.OK:
		return slices.Clone(m), slices.Clone(l), r, api.OK
	case api.ErrTwice:
		return nil, nil, api.Result{}, err
	}
	m, r, err = Do(m, op)
	return m, Note(l, api.Last{Client: client, ID: id, Result: r}), r, err
}

// checkWrite says whether an operation may be, and is a write.
func checkWrite(op api.Op) api.Errno {
	if err := Check(op); err != api.OK {
		return err
	}
	if op.Kind == api.Get {
		return api.ErrArg
	}
	return api.OK
}

package rlog

import (
	"math"

	"buttery/api"
	"buttery/code"
)

// Check tells whether an entry may be.
func Check(e api.Entry) bool {
	if e.Term < 1 || e.Term > api.MaxCount {
		return false
	}
	switch e.Kind {
	case api.Noop:
		return e.Data == "" && len(e.List) == 0
	case api.Change:
		return len(e.Data) <= api.MaxEntry && len(e.List) == 0
	case api.Members:
		return e.Data == "" && areVoters(e.List)
	}
	return false
}

// areVoters says whether a list is of stores that rise, one at least. As they rise, they are
// not more than there can be.
func areVoters(l []int) bool {
	last := 0
	for _, store := range l {
		if store <= last || store > api.MaxStores {
			return false
		}
		last = store
	}
	return len(l) > 0
}

// Write are an entry's bytes.
func Write(e api.Entry) ([]byte, api.Errno) {
	if !Check(e) {
		return nil, api.ErrArg
	}
	b := code.Count(nil, e.Term)
	b = code.Count(b, int(e.Kind))
	b = code.Str(b, e.Data)
	b = code.Count(b, len(e.List))
	for _, store := range e.List {
		b = code.Count(b, store)
	}
	return b, api.OK
}

// Read is the entry of some bytes.
func Read(b []byte) (api.Entry, api.Errno) {
	r := code.NewReader(b)
	var e api.Entry
	e.Term = r.Count(api.MaxCount)
	e.Kind = uint8(r.Count(math.MaxUint8))
	e.Data = r.Str(api.MaxEntry)
	for range r.Count(api.MaxStores) {
		e.List = append(e.List, r.Count(api.MaxStores))
	}
	if !r.Done() || !Check(e) {
		return api.Entry{}, api.ErrForm
	}
	return e, api.OK
}

// mayFollow says whether entries may stand behind one of a term, one behind the other.
func mayFollow(term int, l []api.Entry) bool {
	for _, e := range l {
		if !Check(e) || e.Term < term {
			return false
		}
		term = e.Term
	}
	return true
}

// twin is an entry with a list of its own.
func twin(e api.Entry) api.Entry {
	e.List = append([]int(nil), e.List...)
	return e
}

// twins are entries with lists of their own.
func twins(l []api.Entry) []api.Entry {
	c := make([]api.Entry, len(l))
	copy(c, l)
	for i, e := range c {
		c[i] = twin(e)
	}
	return c
}

package rlog_test

import (
	"maps"
	"slices"

	"buttery/api"
)

// mind is a log in mind: which entry stands at which index.
type mind struct {
	base, term int
	at         map[int]api.Entry
}

// thought is a log in mind with these entries.
func thought(base, term int, l []api.Entry) mind {
	m := mind{base: base, term: term, at: map[int]api.Entry{}}
	for i, e := range cloned(l) {
		m.at[base+1+i] = e
	}
	return m
}

// ends are the last entry's index and term.
func (m mind) ends() (int, int) {
	last := m.base
	for i := range m.at {
		last = max(last, i)
	}
	term, _ := m.termAt(last)
	return last, term
}

// termAt is the term at an index, the base's too.
func (m mind) termAt(i int) (int, bool) {
	if i == m.base {
		return m.term, true
	}
	e, ok := m.at[i]
	return e.Term, ok
}

// list are all entries.
func (m mind) list() []api.Entry {
	var l []api.Entry
	for _, i := range slices.Sorted(maps.Keys(m.at)) {
		l = append(l, m.at[i])
	}
	return l
}

// from are the entries at an index and above, so many at most.
func (m mind) from(i, most int) []api.Entry {
	var l []api.Entry
	for _, index := range slices.Sorted(maps.Keys(m.at)) {
		if index >= i && len(l) < most {
			l = append(l, m.at[index])
		}
	}
	return l
}

// members is the list of the last Members at an index or below.
func (m mind) members(i int) ([]int, bool) {
	found := 0
	for index, e := range m.at {
		if index <= i && e.Kind == 3 {
			found = max(found, index)
		}
	}
	return m.at[found].List, found > 0
}

// above says whether a log that ends so is as new, or newer.
func (m mind) above(index, term int) bool {
	last, lastTerm := m.ends()
	if term != lastTerm {
		return term > lastTerm
	}
	return index >= last
}

// indices are those that matter.
func (m mind) indices() []int {
	l := ints()
	last, _ := m.ends()
	for i := range last - m.base + 7 {
		l = append(l, m.base-3+i)
	}
	return l
}

// wrong is why entries may not stand behind an index and a term.
func wrong(index, term int, l []api.Entry) api.Errno {
	bad := index < 0 || index > maxCount || term < 0 || term > maxCount
	for _, e := range l {
		bad = bad || !mayBe(e) || e.Term < term
		term = e.Term
	}
	switch {
	case bad:
		return api.ErrArg
	case int64(index)+int64(len(l)) > maxCount:
		return api.ErrExhausted
	}
	return api.OK
}

// added is a log behind an Append.
func (m mind) added(e api.Entry) (mind, api.Errno) {
	last, term := m.ends()
	if err := wrong(last, term, []api.Entry{e}); err != api.OK {
		return m, err
	}
	return thought(m.base, m.term, append(m.list(), e)), api.OK
}

// merged is a log behind a Merge, and which index was turned first.
func (m mind) merged(prev, term int, l []api.Entry) (mind, int, api.Errno) {
	if err := wrong(prev, term, l); err != api.OK {
		return m, 0, err
	}
	have, ok := m.termAt(prev)
	switch {
	case prev >= m.base && (!ok || have != term):
		return m, 0, api.ErrState
	case prev < m.base && prev+len(l) > m.base && l[m.base-prev].Term < m.term:
		return m, 0, api.ErrArg
	}
	for i, e := range l {
		index := prev + 1 + i
		if had, ok := m.at[index]; index <= m.base || ok && had.Term == e.Term {
			continue
		}
		return thought(m.base, m.term, append(m.from(0, index-m.base-1), l[i:]...)), index, api.OK
	}
	return m, 0, api.OK
}

// cut is a log behind a Cut.
func (m mind) cut(i int) (mind, api.Errno) {
	term, ok := m.termAt(i)
	if !ok {
		return m, api.ErrArg
	}
	return thought(i, term, m.list()[i-m.base:]), api.OK
}

// reset is a log behind a Reset.
func (m mind) reset(base, term int) (mind, api.Errno) {
	if err := wrong(base, term, nil); err != api.OK {
		return m, err
	}
	return thought(base, term, nil), api.OK
}

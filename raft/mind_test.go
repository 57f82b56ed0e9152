package raft_test

import (
	"maps"
	"slices"

	"buttery/api"
	"buttery/raft"
)

// mind is a member in mind: what the chapter says, as plainly as can be.
type mind struct {
	id, stores, elect, beat            int
	term, vote, leader, commit, waited int
	role                               uint8
	base, baseTerm                     int
	at                                 map[int]api.Entry
	voters                             []int
	state                              string
	votes                              map[int]bool
	next, match                        map[int]int
	mails                              []api.Mail
	hard, based                        bool
	turned                             map[int]bool // indices from which on the log was turned
}

// thought is a member in mind; whether there may be one is not asked.
func thought(s raft.Start) *mind {
	m := &mind{id: s.ID, stores: s.Stores, elect: s.Elect, beat: s.Beat, term: s.Term, vote: s.Vote, role: follower}
	m.base, m.baseTerm, m.commit, m.at = s.Base, s.BaseTerm, s.Base, map[int]api.Entry{}
	m.voters, m.state = slices.Clone(s.Voters), s.State
	for i, e := range cloned(s.Entries) {
		m.at[s.Base+1+i] = e
	}
	m.votes, m.next, m.match, m.turned = map[int]bool{}, map[int]int{}, map[int]int{}, map[int]bool{}
	return m
}

// twin is a member in mind that goes its own way.
func (m *mind) twin() *mind {
	c := *m
	c.at, c.votes, c.next, c.match, c.turned = maps.Clone(m.at), maps.Clone(m.votes), maps.Clone(m.next), maps.Clone(m.match), maps.Clone(m.turned)
	c.mails = slices.Clone(m.mails)
	return &c
}

// last is the last's index.
func (m *mind) last() int { return m.base + len(m.at) }

// termAt is the term at an index, the base's too.
func (m *mind) termAt(i int) (int, bool) {
	if i == m.base {
		return m.baseTerm, true
	}
	e, ok := m.at[i]
	return e.Term, ok
}

// log are the entries behind an index and up to another one, so many at most.
func (m *mind) log(after, most, last int) []api.Entry {
	var l []api.Entry
	for k := range len(m.at) {
		i := m.base + 1 + k
		if i > after && i <= last && len(l) < most {
			l = append(l, m.at[i])
		}
	}
	return l
}

// lastMembers is the index of the last Members entry up to an index; 0, if there is none.
func (m *mind) lastMembers(most int) int {
	found := 0
	for i, e := range m.at {
		if e.Kind == 3 && i <= most && i > found {
			found = i
		}
	}
	return found
}

// electors are who votes by what stands up to an index.
func (m *mind) electors(most int) []int {
	if i := m.lastMembers(most); i > 0 {
		return m.at[i].List
	}
	return m.voters
}

// votesItself says whether it is among the voters.
func (m *mind) votesItself() bool { return slices.Contains(m.electors(m.last()), m.id) }

// isTurning says whether the last Members entry is above Commit.
func (m *mind) isTurning() bool { return m.lastMembers(m.last()) > m.commit }

// most says whether more than half of the voters are as asked.
func (m *mind) most(asked func(store int) bool) bool {
	yes, no := 0, 0
	for _, v := range m.electors(m.last()) {
		if asked(v) {
			yes++
		} else {
			no++
		}
	}
	return yes > no
}

// send sends a message.
func (m *mind) send(to int, x api.Msg) {
	m.mails = append(m.mails, api.Mail{From: m.id, To: to, Msg: x})
}

// sendEntries sends entries to a store.
func (m *mind) sendEntries(to int) {
	n := m.next[to]
	if n > m.base {
		term, _ := m.termAt(n - 1)
		m.send(to, api.Msg{Kind: appendAsk, Term: m.term, Index: n - 1, PrevTerm: term, Commit: m.commit, Entries: m.log(n-1, 8, m.last())})
	} else {
		m.send(to, api.Msg{Kind: snap, Term: m.term, Index: m.base, PrevTerm: m.baseTerm, List: m.voters, State: m.state})
	}
}

// sendAll sends entries to each other store.
func (m *mind) sendAll() {
	for to := 1; to <= m.stores; to++ {
		if to != m.id {
			m.sendEntries(to)
		}
	}
}

// agree lets a leader agree.
func (m *mind) agree() {
	for i := m.last(); i > m.commit; i-- {
		if m.at[i].Term == m.term && m.most(func(v int) bool { return v == m.id || m.match[v] >= i }) {
			m.commit = i
			break
		}
	}
	if !m.isTurning() && !m.votesItself() {
		m.role, m.leader = follower, 0
	}
}

// add appends an entry, as a leader does.
func (m *mind) add(e api.Entry) {
	i := m.last() + 1
	m.at[i] = e
	m.turned[i] = true
	m.agree()
	if m.role == leader {
		m.sendAll()
	}
}

// take takes another Term.
func (m *mind) take(term int) {
	m.term, m.vote, m.role, m.leader, m.hard = term, 0, follower, 0, true
}

// lead lets a candidate lead.
func (m *mind) lead() {
	if m.last() == maxCount {
		return
	}
	m.role, m.leader, m.waited = leader, m.id, 0
	for s := 1; s <= m.stores; s++ {
		m.next[s], m.match[s] = m.last()+1, 0
	}
	m.add(noop(m.term))
}

// tick lets a tick pass.
func (m *mind) tick() {
	m.waited++
	if m.role == leader {
		if m.waited >= m.beat {
			m.waited = 0
			m.sendAll()
		}
		return
	}
	if m.waited < m.elect+m.id-1 || !m.votesItself() && !m.isTurning() || m.term >= maxCount {
		return
	}
	m.take(m.term + 1)
	m.vote, m.role, m.waited = m.id, candidate, 0
	m.votes = map[int]bool{m.id: true}
	if m.most(func(v int) bool { return m.votes[v] }) {
		m.lead()
		return
	}
	term, _ := m.termAt(m.last())
	for _, v := range m.electors(m.last()) {
		if v != m.id {
			m.send(v, api.Msg{Kind: voteAsk, Term: m.term, Index: m.last(), PrevTerm: term})
		}
	}
}

// mayBe says whether an entry may be, in a group of so many stores.
func mayBe(e api.Entry, stores int) bool {
	rises := len(e.List) > 0
	for i, n := range e.List {
		rises = rises && n >= 1 && n <= stores && (i == 0 || n > e.List[i-1])
	}
	if e.Term < 1 || e.Term > maxCount {
		return false
	}
	switch e.Kind {
	case 1:
		return e.Data == "" && len(e.List) == 0
	case 2:
		return len(e.Data) <= maxEntry && len(e.List) == 0
	case 3:
		return e.Data == "" && rises
	}
	return false
}

// mayCome says whether a message may be.
func (m *mind) mayCome(from int, x api.Msg) bool {
	if from < 1 || from > m.stores || from == m.id || x.Kind < 1 || x.Kind > 5 {
		return false
	}
	if x.Term < 1 || x.Term > maxCount || x.Index < 0 || x.Index > maxCount || x.Commit < 0 || x.Commit > maxCount {
		return false
	}
	if x.PrevTerm < 0 || x.PrevTerm > maxCount || x.PrevTerm > x.Term {
		return false
	}
	if x.Kind == snap {
		return mayBe(api.Entry{Term: 1, Kind: 3, List: x.List}, m.stores)
	}
	if x.Kind == appendAsk {
		term := x.PrevTerm
		for _, e := range x.Entries {
			if !mayBe(e, m.stores) || e.Term < term || e.Term > x.Term {
				return false
			}
			term = e.Term
		}
		return int64(x.Index)+int64(len(x.Entries)) <= maxCount
	}
	return true
}

// step lets a message come.
func (m *mind) step(from int, x api.Msg) {
	if !m.mayCome(from, x) {
		return
	}
	if x.Term > m.term {
		m.take(x.Term)
	}
	switch x.Kind {
	case voteAsk:
		m.hearAsk(from, x)
	case voteTell:
		if m.role == candidate && m.term == x.Term && x.Granted {
			m.votes[from] = true
			if m.most(func(v int) bool { return m.votes[v] }) {
				m.lead()
			}
		}
	case appendTell:
		if m.role == leader && m.term == x.Term {
			m.hearTell(from, x)
		}
	default:
		if x.Term < m.term {
			m.send(from, api.Msg{Kind: appendTell, Term: m.term})
		} else if m.role != leader {
			m.role, m.leader, m.waited = follower, from, 0
			if x.Kind == snap {
				m.hearSnap(from, x)
			} else {
				m.hearAppend(from, x)
			}
		}
	}
}

// hearAsk votes, or does not.
func (m *mind) hearAsk(from int, x api.Msg) {
	lastTerm, _ := m.termAt(m.last())
	newer := x.PrevTerm > lastTerm || x.PrevTerm == lastTerm && x.Index >= m.last()
	grants := x.Term == m.term && (m.vote == 0 || m.vote == from) && newer
	if grants {
		m.vote, m.waited, m.hard = from, 0, true
	}
	m.send(from, api.Msg{Kind: voteTell, Term: m.term, Granted: grants})
}

// hearTell notes what another one has.
func (m *mind) hearTell(from int, x api.Msg) {
	i := x.Index
	if i > m.last() {
		i = m.last()
	}
	if !x.Granted {
		n := m.next[from] - 1
		if n > i+1 {
			n = i + 1
		}
		if n <= m.match[from] {
			n = m.match[from] + 1
		}
		m.next[from] = n
		m.sendEntries(from)
		return
	}
	if i > m.match[from] {
		m.match[from] = i
	}
	if m.match[from]+1 > m.next[from] {
		m.next[from] = m.match[from] + 1
	}
	m.agree()
	if m.role == leader && m.next[from] <= m.last() {
		m.sendEntries(from)
	}
}

// hearAppend merges entries.
func (m *mind) hearAppend(from int, x api.Msg) {
	if x.Index >= m.base {
		if term, ok := m.termAt(x.Index); !ok || term != x.PrevTerm {
			i := x.Index - 1
			if i > m.last() {
				i = m.last()
			}
			if i < 0 {
				i = 0
			}
			m.send(from, api.Msg{Kind: appendTell, Term: m.term, Index: i})
			return
		}
	}
	first := 0
	for k, e := range x.Entries {
		i := x.Index + 1 + k
		if i == m.base+1 && x.Index < m.base && e.Term < m.baseTerm {
			return // rlog's ErrArg
		}
		if had, ok := m.at[i]; first == 0 && i > m.base && (!ok || had.Term != e.Term) {
			first = i
		}
	}
	if first > 0 && first <= m.commit {
		return
	}
	if first > 0 {
		m.turned[first] = true
		maps.DeleteFunc(m.at, func(i int, _ api.Entry) bool { return i >= first })
		for k, e := range x.Entries {
			if i := x.Index + 1 + k; i >= first {
				e.List = slices.Clone(e.List)
				m.at[i] = e
			}
		}
	}
	sum := x.Index + len(x.Entries)
	m.commit = max(m.commit, min(sum, x.Commit))
	m.send(from, api.Msg{Kind: appendTell, Term: m.term, Granted: true, Index: sum})
}

// hearSnap takes a base.
func (m *mind) hearSnap(from int, x api.Msg) {
	if x.Index <= m.commit {
		m.send(from, api.Msg{Kind: appendTell, Term: m.term, Granted: true, Index: m.commit})
		return
	}
	if e, ok := m.at[x.Index]; ok && e.Term == x.PrevTerm {
		maps.DeleteFunc(m.at, func(i int, _ api.Entry) bool { return i <= x.Index })
	} else {
		clear(m.at)
		m.turned[x.Index+1] = true
	}
	m.base, m.baseTerm, m.commit, m.based = x.Index, x.PrevTerm, x.Index, true
	m.voters, m.state = slices.Clone(x.List), x.State
	m.send(from, api.Msg{Kind: appendTell, Term: m.term, Granted: true, Index: x.Index})
}

// refusal is why a proposal is refused.
func (m *mind) refusal(e api.Entry) api.Errno {
	e.Term = m.term
	at, _ := m.termAt(m.commit)
	switch {
	case m.role != leader:
		return api.ErrLeader
	case !mayBe(e, m.stores):
		return api.ErrArg
	case e.Kind == 3 && (at != m.term || m.isTurning()):
		return api.ErrBusy
	case e.Kind == 3 && alone(e.List, m.electors(m.last())) != 1:
		return api.ErrArg
	case m.last() == maxCount:
		return api.ErrExhausted
	}
	return api.OK
}

// alone is how many numbers are in one of two lists alone.
func alone(a, b []int) int {
	n := 0
	for v := 1; v <= maxStores; v++ {
		if slices.Contains(a, v) != slices.Contains(b, v) {
			n++
		}
	}
	return n
}

// propose proposes an entry.
func (m *mind) propose(kind uint8, data string, l []int) (int, api.Errno) {
	e := api.Entry{Kind: kind, Data: data, List: slices.Clone(l)}
	if err := m.refusal(e); err != api.OK {
		return 0, err
	}
	e.Term = m.term
	m.add(e)
	return m.last(), api.OK
}

// compact forgets all up to an index.
func (m *mind) compact(i int, state string) api.Errno {
	if i < m.base || i > m.commit {
		return api.ErrArg
	}
	m.voters = m.electors(i)
	m.baseTerm, _ = m.termAt(i)
	maps.DeleteFunc(m.at, func(k int, _ api.Entry) bool { return k <= i })
	m.base, m.state, m.based = i, state, true
	return api.OK
}

// takeMails are what was sent.
func (m *mind) takeMails() []api.Mail {
	l := m.mails
	m.mails = nil
	return l
}

// takeChanged is what turned.
func (m *mind) takeChanged() raft.Change {
	c := raft.Change{Hard: m.hard, Base: m.based}
	for i := range m.turned {
		if i <= m.base {
			i = m.base + 1
		}
		if c.From == 0 || i < c.From {
			c.From = i
		}
	}
	m.hard, m.based, m.turned = false, false, map[int]bool{}
	return c
}

// view is how it stands.
func (m *mind) view() raft.View {
	return raft.View{Role: m.role, Term: m.term, Vote: m.vote, Leader: m.leader, Commit: m.commit, Base: m.base, Last: m.last()}
}

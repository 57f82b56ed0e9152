package raft

import (
	"slices"

	"buttery/api"
	"buttery/ballot"
)

// take takes another Term.
func (m *Member) take(term int) {
	m.term, m.role, m.leader = term, Follower, 0
	m.voteFor(0)
}

// voteFor sets the Vote: 0 is for nobody.
func (m *Member) voteFor(store int) {
	m.vote = store
	m.changed.Hard = true
}

// rest sets what the base has beside its index and its term.
func (m *Member) rest(voters []int, state string) {
	m.voters, m.state = voters, state
	m.changed.Base = true
}

// turnedFrom notes that the log was turned from an index on; at 0 it was not.
func (m *Member) turnedFrom(i int) {
	if i > 0 && (m.changed.From == 0 || i < m.changed.From) {
		m.changed.From = i
	}
}

// last is the last's index.
func (m *Member) last() int {
	i, _ := m.log.Last()
	return i
}

// votersAt are those that vote by what stands up to an index.
func (m *Member) votersAt(i int) []int {
	if l, ok := m.log.Members(i); ok {
		return l
	}
	return slices.Clone(m.voters)
}

// behind are entries behind an index, up to another one.
func (m *Member) behind(after, upTo, most int) []api.Entry {
	base, _ := m.log.Base()
	after = max(after, base)
	return m.log.From(after+1, min(most, upTo-after))
}

// isTurning says whether a Members entry stands above Commit.
func (m *Member) isTurning() bool {
	l := m.behind(m.commit, m.last(), api.MaxCount)
	return slices.ContainsFunc(l, func(e api.Entry) bool { return e.Kind == api.Members })
}

// isVoter says whether it votes itself.
func (m *Member) isVoter() bool { return slices.Contains(m.Voters(), m.id) }

// mayTurn says whether a leader may propose other voters: others may be under way, also in the
// logs of those that led before, till an entry of its own term is agreed upon.
func (m *Member) mayTurn() bool {
	term, _ := m.log.Term(m.commit)
	return term == m.term && !m.isTurning()
}

// mayStand says whether it may stand for election.
func (m *Member) mayStand() bool { return m.term < api.MaxCount && (m.isVoter() || m.isTurning()) }

// stand lets it stand for election.
func (m *Member) stand() {
	m.take(m.term + 1)
	m.voteFor(m.id)
	m.role, m.waited, m.votes = Candidate, 0, []int{m.id}
	voters := m.Voters()
	if ballot.Won(voters, m.votes) {
		m.lead()
		return
	}
	index, term := m.log.Last()
	for _, to := range voters {
		if to != m.id {
			m.send(to, api.Msg{Kind: api.VoteAsk, Term: m.term, Index: index, PrevTerm: term})
		}
	}
}

// lead lets a candidate that has won lead, if there is room for its first entry.
func (m *Member) lead() {
	last := m.last()
	if last >= api.MaxCount {
		return
	}
	m.role, m.leader, m.waited = Leader, m.id, 0
	for place := range m.sent {
		m.sent[place], m.match[place] = last, 0
	}
	m.put(api.Entry{Term: m.term, Kind: api.Noop})
}

// put lets an entry of a leader stand behind the last, and go to all others.
func (m *Member) put(e api.Entry) (int, api.Errno) {
	if err := m.log.Append(e); err != api.OK {
		return 0, err
	}
	last := m.last()
	m.turnedFrom(last)
	m.agree()
	if m.role == Leader {
		m.sendAll()
	}
	return last, api.OK
}

// agree lets a leader look how far the voters agree, and whether it leads still.
func (m *Member) agree() {
	has := m.match
	has[m.id-1] = m.last()
	index := ballot.Common(m.Voters(), has[:])
	term, _ := m.log.Term(index)
	if index > m.commit && term == m.term {
		m.commit = index
	}
	if !m.isVoter() && !m.isTurning() {
		m.role, m.leader = Follower, 0
	}
}

// sendAll sends entries to each other store.
func (m *Member) sendAll() {
	for place := range m.stores {
		if to := place + 1; to != m.id {
			m.sendEntries(to)
		}
	}
}

// sendEntries sends a store what it is believed to lack: entries, or the base, if these are
// forgotten.
func (m *Member) sendEntries(to int) {
	base, baseTerm := m.log.Base()
	sent := m.sent[to-1]
	if sent < base {
		m.send(to, api.Msg{
			Kind: api.Snap, Term: m.term, Index: base, PrevTerm: baseTerm,
			List: slices.Clone(m.voters), State: m.state,
		})
		return
	}
	term, _ := m.log.Term(sent)
	m.send(to, api.Msg{
		Kind: api.Append, Term: m.term, Index: sent, PrevTerm: term, Commit: m.commit,
		Entries: m.behind(sent, m.last(), MaxSend),
	})
}

// send sends a message, when the mails are asked for.
func (m *Member) send(to int, x api.Msg) {
	m.mails = append(m.mails, api.Mail{From: m.id, To: to, Msg: x})
}

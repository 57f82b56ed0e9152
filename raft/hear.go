package raft

import (
	"slices"

	"buttery/api"
	"buttery/ballot"
)

// hears are what is done with each Kind of message.
func hears() map[uint8]func(m *Member, from int, x api.Msg) {
	return map[uint8]func(m *Member, from int, x api.Msg){
		api.VoteAsk:    (*Member).hearVoteAsk,
		api.VoteTell:   (*Member).hearVoteTell,
		api.Append:     (*Member).hearAppend,
		api.AppendTell: (*Member).hearAppendTell,
		api.Snap:       (*Member).hearSnap,
	}
}

// mayCome says whether a message of one of the Kinds may be.
func (m *Member) mayCome(from int, x api.Msg) bool {
	if !isFrom(1, m.stores, from) || from == m.id ||
		!isFrom(1, api.MaxCount, x.Term) || !isFrom(0, x.Term, x.PrevTerm) ||
		!isFrom(0, api.MaxCount, x.Index) || !isFrom(0, api.MaxCount, x.Commit) {
		return false
	}
	switch x.Kind {
	case api.Append: // what follows in it may be just if it may be a log
		_, err := newLog(m.stores, x.Term, x.Index, x.PrevTerm, x.Entries)
		return err == api.OK
	case api.Snap:
		return areVoters(m.stores, x.List)
	}
	return true
}

// hearVoteAsk votes for whoever stands, or does not.
func (m *Member) hearVoteAsk(from int, x api.Msg) {
	grants := ballot.Grants(m.term, m.vote, x.Term, from, m.log.Above(x.Index, x.PrevTerm))
	if grants {
		m.voteFor(from)
		m.waited = 0
	}
	m.send(from, api.Msg{Kind: api.VoteTell, Term: m.term, Granted: grants})
}

// hearVoteTell counts a vote.
func (m *Member) hearVoteTell(from int, x api.Msg) {
	if m.role != Candidate || x.Term != m.term || !x.Granted {
		return
	}
	if !slices.Contains(m.votes, from) {
		m.votes = append(m.votes, from)
	}
	if ballot.Won(m.Voters(), m.votes) {
		m.lead()
	}
}

// hearAppend merges what a leader has into the log.
func (m *Member) hearAppend(from int, x api.Msg) {
	if !m.follows(from, x) {
		return
	}
	log := m.log.Copy() // what it would turn is told by merging alone
	first, err := log.Merge(x.Index, x.PrevTerm, x.Entries)
	switch {
	case err == api.ErrState:
		m.tell(from, false, max(0, min(m.last(), x.Index-1)))
	case err == api.OK && !isFrom(1, m.commit, first):
		m.log = log
		m.turnedFrom(first)
		sum := x.Index + len(x.Entries)
		m.commit = max(m.commit, min(x.Commit, sum))
		m.tell(from, true, sum)
	}
}

// hearAppendTell notes what another store has, and sends it more.
func (m *Member) hearAppendTell(from int, x api.Msg) {
	if m.role != Leader || x.Term != m.term {
		return
	}
	at, index := from-1, min(x.Index, m.last())
	if !x.Granted {
		m.sent[at] = max(m.match[at], min(m.sent[at]-1, index))
		m.sendEntries(from)
		return
	}
	m.match[at] = max(m.match[at], index)
	m.sent[at] = max(m.sent[at], m.match[at])
	m.agree()
	if m.role == Leader && m.sent[at] < m.last() {
		m.sendEntries(from)
	}
}

// hearSnap takes a leader's base.
func (m *Member) hearSnap(from int, x api.Msg) {
	if !m.follows(from, x) {
		return
	}
	if x.Index > m.commit {
		m.startAt(x.Index, x.PrevTerm)
		m.rest(slices.Clone(x.List), x.State)
		m.commit = x.Index
	}
	m.tell(from, true, m.commit)
}

// follows says whether what a leader sends is taken. If that one's term is over, it is told so.
func (m *Member) follows(from int, x api.Msg) bool {
	if x.Term < m.term {
		m.tell(from, false, 0)
		return false
	}
	if m.role == Leader {
		return false
	}
	m.role, m.leader, m.waited = Follower, from, 0
	return true
}

// startAt lets the log begin behind an index above Commit.
func (m *Member) startAt(index, term int) {
	if has, ok := m.log.Term(index); ok && has == term {
		m.log.Cut(index)
		return
	}
	m.log.Reset(index, term)
	m.turnedFrom(index + 1)
}

// tell answers a leader.
func (m *Member) tell(to int, granted bool, index int) {
	m.send(to, api.Msg{Kind: api.AppendTell, Term: m.term, Granted: granted, Index: index})
}

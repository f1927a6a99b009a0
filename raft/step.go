package raft

import (
	"furlong/api"
	"furlong/roll"
)

// Step is r behind what it was told, and what it says.
func Step(r api.Raft, d api.Desc, m api.Wire) (api.Raft, []api.Wire) {
	a := wake(r, d)
	if m.To == a.Me && m.From != a.Me && isTerm(m.Term) && isId(m.From) {
		a.step(m)
	}
	return a.Raft, a.said
}

// step does what comes of a message that is for it.
func (a *actor) step(m api.Wire) {
	switch m.Kind {
	case api.RaPre:
		a.onPre(m)
	case api.RaPreOk:
		a.onPreOk(m)
	case api.RaVote:
		a.onVote(m)
	case api.RaVoteOk:
		a.onVoteOk(m)
	case api.RaAppend, api.RaSnap:
		a.onLeader(m)
	case api.RaAppendOk:
		a.onAppendOk(m)
	}
}

// onLeader hears what a leader tells.
func (a *actor) onLeader(m api.Wire) {
	if m.Term < a.Term {
		a.say(m.From, api.Wire{Kind: api.RaAppendOk, Term: a.Term, Reject: true, Index: m.Index, Hint: a.last()})
		return
	}
	if m.Term == a.Term && a.leads() {
		// Nobody else leads in its Term.
		return
	}
	a.follow(m.Term, m.From)
	if m.Kind == api.RaSnap {
		a.skip(m)
		return
	}
	a.hear(m)
}

// skip takes an index up to where it is given a copy of what came of the log, in
// the place of the log.
func (a *actor) skip(m api.Wire) {
	fits := m.Index <= api.MaxIndex && 1 <= m.LogTerm && m.LogTerm <= m.Term
	if m.Index > a.Commit && fits {
		a.Roll = api.Roll{Base: m.Index, BaseTerm: m.LogTerm}
		a.Commit = m.Index
	}
	a.say(m.From, api.Wire{Kind: api.RaAppendOk, Term: a.Term, Index: a.Commit})
}

// hear puts a leader's entries where they are to stand.
func (a *actor) hear(m api.Wire) {
	told := a.behindBase(api.Roll{Base: m.Index, BaseTerm: m.LogTerm, Entries: m.Entries})
	if !a.mayStand(told) {
		return
	}
	merged, known := roll.Merge(a.Roll, told.Base, told.BaseTerm, told.Entries)
	if !known {
		hint := min(a.last(), m.Index-1)
		a.say(m.From, api.Wire{Kind: api.RaAppendOk, Term: a.Term, Reject: true, Index: m.Index, Hint: hint})
		return
	}
	a.Roll = merged
	// What stands behind these entries is not known to be the leader's.
	index, _ := roll.Last(told)
	a.Commit = max(a.Commit, min(m.Commit, index))
	a.say(m.From, api.Wire{Kind: api.RaAppendOk, Term: a.Term, Index: index})
}

// behindBase is what was told, without what has gone from the log already: that
// stands for good, and is the same everywhere.
func (a *actor) behindBase(told api.Roll) api.Roll {
	if told.Base >= a.Roll.Base {
		return told
	}
	// Without a sign: an index may be so far below that the difference is too much
	// for a number that has one.
	gone := uint64(a.Roll.Base) - uint64(told.Base)
	n := min(gone, uint64(len(told.Entries)))
	return api.Roll{Base: a.Roll.Base, BaseTerm: a.Roll.BaseTerm, Entries: told.Entries[n:]}
}

// mayStand is whether entries may stand where it was told, none of them from a
// later Term, and none in the place of another one that stands for good.
func (a *actor) mayStand(told api.Roll) bool {
	if roll.Check(told) != api.OK {
		return false
	}
	if index, term := roll.Last(told); index > told.Base && term > a.Term {
		return false
	}
	for i, e := range told.Entries {
		at := told.Base + 1 + int64(i)
		if at > a.Commit {
			break
		}
		if term, there := roll.Term(a.Roll, at); there && term != e.Term {
			return false
		}
	}
	return true
}

package raft

import (
	"math"
	"slices"

	"furlong/api"
	"furlong/desc"
	"furlong/roll"
)

// actor is a replica that does something: its raft, the group that it is in, and
// what it has said so far.
type actor struct {
	api.Raft
	group api.Desc
	said  []api.Wire
}

// wake is r, about to do something in the group d.
func wake(r api.Raft, d api.Desc) *actor {
	// These two are changed where they stand; package roll changes no log, but the
	// room behind one may be somebody's.
	r.Granted = slices.Clone(r.Granted)
	r.Progress = slices.Clone(r.Progress)
	r.Roll.Entries = slices.Clip(r.Roll.Entries)
	return &actor{Raft: r, group: d}
}

// Tick is r a moment later, and what it says.
func Tick(r api.Raft, d api.Desc, draw int) (api.Raft, []api.Wire) {
	a := wake(r, d)
	a.tick(draw)
	return a.Raft, a.said
}

// Propose is r with an entry of this text more, what it says, and true; r and
// false, if it does not lead, or its log is full.
func Propose(r api.Raft, d api.Desc, text string) (api.Raft, []api.Wire, bool) {
	a := wake(r, d)
	if !a.leads() || a.last() >= api.MaxIndex {
		return a.Raft, nil, false
	}
	a.write(text)
	return a.Raft, a.said, true
}

// Tell is r, and what it says, when others have become the group's members.
func Tell(r api.Raft, d api.Desc) (api.Raft, []api.Wire) {
	a := wake(r, d)
	if a.leads() {
		a.tellAll()
		a.agree()
	}
	return a.Raft, a.said
}

// tick does what becomes due as a moment goes by.
func (a *actor) tick(draw int) {
	// The greatest age that there is has none behind it.
	a.Age = min(a.Age, math.MaxInt-1) + 1
	switch {
	case a.leads() && a.Age >= api.Heart:
		a.Age = 0
		a.tellAll()
	case !a.leads() && a.Age >= a.Draw:
		a.campaign(between(draw))
	}
}

// follow makes it a follower in a term, of a leader, or of nobody that is known.
func (a *actor) follow(term, lead int64) {
	if term > a.Term {
		a.Term, a.Vote = term, 0
	}
	a.Role, a.Lead, a.Age = api.RoleFollower, lead, 0
	a.Granted, a.Progress = nil, nil
}

// say notes what is to go to somebody.
func (a *actor) say(to int64, m api.Wire) {
	m.From, m.To = a.Me, to
	a.said = append(a.said, m)
}

// leads is whether it is the leader of its Term.
func (a *actor) leads() bool {
	return a.Role == api.RoleLeader
}

// last is the index of the log's last entry.
func (a *actor) last() int64 {
	index, _ := roll.Last(a.Roll)
	return index
}

// isMember is whether id is one of the group's members.
func (a *actor) isMember(id int64) bool {
	_, there := desc.Has(a.group, id)
	return there
}

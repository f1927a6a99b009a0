package replica

import (
	"furlong/api"
	"furlong/deed"
	"furlong/order"
	"furlong/raft"
)

// actor is a replica that does something: what it was, and becomes, the group as
// the others were told of it last, what it has said, and what it has applied.
type actor struct {
	api.Replica
	group api.Desc
	said  []api.Wire
	done  []api.Done
	// text is its range's, as soon as somebody needs it.
	text string
}

// wake is r, about to do something.
func wake(r api.Replica) *actor {
	return &actor{Replica: apart(r), group: Members(r)}
}

// Tick is r a moment later, what it says, and what it has applied.
func Tick(r api.Replica, draw int) (api.Replica, []api.Wire, []api.Done) {
	a := wake(r)
	a.take(raft.Tick(a.Raft, a.group, draw))
	return a.answer()
}

// Step is r behind what it was told, what it says, and what it has applied.
func Step(r api.Replica, m api.Wire) (api.Replica, []api.Wire, []api.Done) {
	a := wake(r)
	p, fits := a.fits(m)
	if !fits {
		return a.Replica, nil, nil
	}
	a.take(raft.Step(a.Raft, a.group, m))
	if m.Kind == api.RaSnap {
		a.skip(m.Index, p)
	}
	return a.answer()
}

// Propose is r with o behind its log, what it says, what it has applied, and
// true; r and false, if o is not for it, or it does not lead.
func Propose(r api.Replica, o api.Order) (api.Replica, []api.Wire, []api.Done, bool) {
	a := wake(r)
	if !mayPropose(r, o) {
		return a.Replica, nil, nil, false
	}
	next, said, ok := raft.Propose(a.Raft, a.group, order.Put(o))
	if !ok {
		return a.Replica, nil, nil, false
	}
	a.take(next, said)
	r, wires, done := a.answer()
	return r, wires, done, true
}

// take takes what its raft has become, and what that says.
func (a *actor) take(r api.Raft, said []api.Wire) {
	a.Raft = r
	a.said = append(a.said, said...)
}

// fits is whether something may come of m, and the range that m has a copy of.
func (a *actor) fits(m api.Wire) (api.Plot, bool) {
	switch m.Kind {
	case api.RaSnap:
		p, e := deed.Parse(m.Text)
		return p, e == api.OK && (Blank(a.Replica) || p.Desc.Id == a.Plot.Desc.Id)
	case api.RaAppend:
		return api.Plot{}, !Blank(a.Replica) || !isFromNothing(m)
	}
	return api.Plot{}, true
}

// isFromNothing is whether the entries of m, a RaAppend, begin where a log does.
// A blank one would have a log then, but nothing to which it could be done.
func isFromNothing(m api.Wire) bool {
	if m.Index >= 0 {
		return m.Index == 0
	}
	// A raft passes over those that would stand ahead of that. Without a sign: the
	// least number has no other one that is as great.
	return uint64(len(m.Entries)) > -uint64(m.Index)
}

// skip has the range p, which came of the log up to index, in the place of what
// it had, if its raft has skipped all up to there.
func (a *actor) skip(index int64, p api.Plot) {
	if a.Raft.Roll.Base == index && a.Raft.Commit == index && a.Applied < index {
		a.Plot, a.Applied = p, index
	}
}

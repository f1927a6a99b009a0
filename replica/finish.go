package replica

import (
	"slices"

	"furlong/api"
	"furlong/deed"
	"furlong/order"
	"furlong/plot"
	"furlong/raft"
	"furlong/roll"
)

// mostCopy is how many bytes the text of a range may have that is sent.
const mostCopy = 1 << 18

// answer is what became of a, what it says, and what it has applied, when it has
// done all that was to be done.
func (a *actor) answer() (api.Replica, []api.Wire, []api.Done) {
	a.finish()
	return a.Replica, finished(a.said, a.whole), a.done
}

// finish applies what stands for good. As soon as others are the group's members,
// a leader tells them; what they agree upon may stand for good at once.
func (a *actor) finish() {
	a.applyAll()
	for a.Raft.Role == api.RoleLeader && a.regroups() {
		a.take(raft.Tell(a.Raft, a.group))
		a.applyAll()
	}
}

// regroups takes the group as the log has it now, and is whether its members are
// others than they were.
func (a *actor) regroups() bool {
	was := a.group
	a.group = Members(a.Replica)
	same := func(x, y api.Member) bool { return x.Id == y.Id }
	return !slices.EqualFunc(was.Members, a.group.Members, same)
}

// applyAll applies all entries that stand for good.
func (a *actor) applyAll() {
	for entry, there := a.next(); there; entry, there = a.next() {
		a.apply(entry)
	}
}

// next is the entry that is to be applied next, and true; false, if there is none.
func (a *actor) next() (api.Entry, bool) {
	if a.Applied < a.Raft.Roll.Base || a.Applied >= a.Raft.Commit {
		return api.Entry{}, false
	}
	l := roll.Slice(a.Raft.Roll, a.Applied+1, 1)
	if len(l) == 0 {
		return api.Entry{}, false
	}
	return l[0], true
}

// apply does the order that an entry is to the range.
func (a *actor) apply(entry api.Entry) {
	// The zero one, if it is none's: that does nothing.
	o, _ := order.Parse(entry.Text)
	p, reply, effect := plot.Apply(a.Plot, o)
	a.Plot = p
	a.Applied++
	a.done = append(a.done, api.Done{
		Range:  p.Desc.Id,
		Index:  a.Applied,
		Term:   entry.Term,
		Order:  o,
		Reply:  reply,
		Effect: effect,
	})
}

// finished is each of l as whole makes it, but for those of which that says false.
func finished(l []api.Wire, whole func(api.Wire) (api.Wire, bool)) []api.Wire {
	var all []api.Wire
	for _, m := range l {
		if m, ok := whole(m); ok {
			all = append(all, m)
		}
	}
	return all
}

// whole is m as it is to go, and true: a RaSnap with a copy of the range as it is
// now; false, if that is too great to go.
func (a *actor) whole(m api.Wire) (api.Wire, bool) {
	if m.Kind != api.RaSnap {
		return m, true
	}
	if a.text == "" {
		a.text = deed.Put(a.Plot)
	}
	m.Index, m.Text = a.Applied, a.text
	m.LogTerm, _ = roll.Term(a.Raft.Roll, a.Applied)
	return m, len(a.text) <= mostCopy
}

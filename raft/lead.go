package raft

import (
	"slices"

	"furlong/api"
	"furlong/member"
	"furlong/roll"
)

// write puts an entry of its Term behind its log, and tells the others.
func (a *actor) write(text string) {
	a.Roll = roll.Append(a.Roll, api.Entry{Term: a.Term, Text: text})
	a.tellAll()
	// Alone it need not wait for what others say.
	a.agree()
}

// tellAll tells each of the others what comes next for him.
func (a *actor) tellAll() {
	a.meet()
	a.Progress = slices.DeleteFunc(a.Progress, func(p api.Progress) bool { return !a.isMember(p.Id) })
	for _, p := range a.Progress {
		a.tell(p)
	}
}

// meet takes into Progress the members that are not there, as if they had all
// that it has: what they answer tells how far they are.
func (a *actor) meet() {
	next := a.last() + 1
members:
	for _, m := range a.group.Members {
		if m.Id == a.Me {
			continue
		}
		at := 0
		for _, p := range a.Progress {
			if p.Id == m.Id {
				continue members
			}
			if p.Id < m.Id {
				at++
			}
		}
		a.Progress = slices.Insert(a.Progress, at, api.Progress{Id: m.Id, Next: next})
	}
}

// tell tells one of Progress what comes next for him; if that has gone from the
// log, that he needs a copy of what came of it.
func (a *actor) tell(p api.Progress) {
	if p.Next <= a.Roll.Base {
		a.say(p.Id, api.Wire{Kind: api.RaSnap, Term: a.Term})
		return
	}
	ahead := p.Next - 1
	term, _ := roll.Term(a.Roll, ahead)
	a.say(p.Id, api.Wire{
		Kind:    api.RaAppend,
		Term:    a.Term,
		Index:   ahead,
		LogTerm: term,
		Entries: roll.Slice(a.Roll, p.Next, api.Batch),
		Commit:  a.Commit,
	})
}

// agree finds up to where a majority has the log, tells the others, if that is
// further than was known, and is whether it was.
func (a *actor) agree() bool {
	var reached []int64
	for _, m := range a.group.Members {
		reached = append(reached, a.reach(m.Id))
	}
	n := member.Agreed(reached...)
	term, there := roll.Term(a.Roll, n)
	// An entry of an earlier term may still go, however many have it.
	if n <= a.Commit || !there || term != a.Term {
		return false
	}
	a.Commit = n
	a.tellAll()
	return true
}

// reach is up to where a member is known to have the log.
func (a *actor) reach(id int64) int64 {
	if id == a.Me {
		return a.last()
	}
	at := a.progressOf(id)
	if at < 0 {
		return 0
	}
	return a.Progress[at].Match
}

// progressOf is where in Progress it stands how far id is; -1: it does not.
func (a *actor) progressOf(id int64) int {
	return slices.IndexFunc(a.Progress, func(p api.Progress) bool { return p.Id == id })
}

// onAppendOk hears how far somebody has come.
func (a *actor) onAppendOk(m api.Wire) {
	if m.Term > a.Term {
		a.follow(m.Term, 0)
		return
	}
	at := a.progressOf(m.From)
	if !a.leads() || m.Term != a.Term || at < 0 || m.Index > a.last() {
		return
	}
	p := &a.Progress[at]
	if m.Reject {
		// Any other answer is one to what was said before: he was told better.
		if m.Index == p.Next-1 {
			// The lesser one first: 1 more than any Hint may be too much.
			p.Next = max(min(m.Hint, p.Next-2)+1, p.Match+1, 1)
			a.tell(*p)
		}
		return
	}
	p.Match = max(p.Match, m.Index)
	p.Next = max(p.Next, p.Match+1)
	was := *p
	if !a.agree() && was.Next <= a.last() {
		a.tell(was)
	}
}

package raft

import (
	"slices"

	"furlong/api"
	"furlong/desc"
	"furlong/member"
	"furlong/order"
	"furlong/roll"
)

// campaign asks the others whether they would vote for it, as nobody has led for
// so long. It does not take the next Term yet: who is cut off from the others
// would come back with a Term that unseats their leader.
func (a *actor) campaign(draw int) {
	a.Age, a.Draw, a.Lead = 0, draw, 0
	if !a.isMember(a.Me) || a.Term >= api.MaxTerm {
		return
	}
	a.Role = api.RolePre
	a.Granted = []int64{a.Me}
	if a.isBacked() {
		a.stand()
	} else {
		a.ask(api.RaPre, a.Term+1)
	}
}

// stand takes the next Term, and asks the others for their votes in it.
func (a *actor) stand() {
	a.Term++
	a.Vote, a.Role, a.Lead = a.Me, api.RoleCand, 0
	a.Granted = []int64{a.Me}
	if a.isBacked() {
		a.lead()
	} else {
		a.ask(api.RaVote, a.Term)
	}
}

// lead makes it the leader of its Term. What was left by earlier ones stands for
// good only with an entry of its own Term, which it writes therefore at once.
func (a *actor) lead() {
	a.Role, a.Lead, a.Age = api.RoleLeader, a.Me, 0
	a.Granted, a.Progress = nil, nil
	a.write(order.Put(api.Order{}))
}

// ask asks all others for a vote in a term, and tells how far its log comes.
func (a *actor) ask(kind int, term int64) {
	index, logTerm := roll.Last(a.Roll)
	for _, m := range a.group.Members {
		if m.Id != a.Me {
			a.say(m.Id, api.Wire{Kind: kind, Term: term, Index: index, LogTerm: logTerm})
		}
	}
}

// isBacked is whether those who granted it what it asked for are a majority.
func (a *actor) isBacked() bool {
	return member.Count(a.group, a.Granted) >= desc.Quorum(len(a.group.Members))
}

// back puts id among those who granted what was asked for.
func (a *actor) back(id int64) {
	if at, there := slices.BinarySearch(a.Granted, id); !there {
		a.Granted = slices.Insert(a.Granted, at, id)
	}
}

// onPre answers somebody who asks whether it would vote for him. Nothing comes of
// that to itself.
func (a *actor) onPre(m api.Wire) {
	// While it hears of a leader, nobody else is needed.
	free := a.Lead == 0 || a.Age >= api.LeastAge
	if m.Term > a.Term && roll.Newer(m.LogTerm, m.Index, a.Roll) && free {
		a.say(m.From, api.Wire{Kind: api.RaPreOk, Term: m.Term})
		return
	}
	a.say(m.From, api.Wire{Kind: api.RaPreOk, Term: a.Term, Reject: true})
}

// onPreOk hears whether somebody would vote for it.
func (a *actor) onPreOk(m api.Wire) {
	if m.Reject {
		if m.Term > a.Term {
			a.follow(m.Term, 0)
		}
		return
	}
	if a.Role != api.RolePre || m.Term != a.Term+1 || !a.isMember(m.From) {
		return
	}
	a.back(m.From)
	if a.isBacked() {
		a.stand()
	}
}

// onVote answers somebody who asks for its vote, of which it has one in a Term.
func (a *actor) onVote(m api.Wire) {
	if m.Term > a.Term {
		a.follow(m.Term, 0)
	}
	free := a.Role == api.RoleFollower && (a.Vote == 0 || a.Vote == m.From)
	granted := m.Term == a.Term && free && roll.Newer(m.LogTerm, m.Index, a.Roll)
	if granted {
		a.Vote, a.Age = m.From, 0
	}
	a.say(m.From, api.Wire{Kind: api.RaVoteOk, Term: a.Term, Reject: !granted})
}

// onVoteOk hears whether somebody votes for it.
func (a *actor) onVoteOk(m api.Wire) {
	if m.Term > a.Term {
		a.follow(m.Term, 0)
		return
	}
	if a.Role != api.RoleCand || m.Term != a.Term || m.Reject || !a.isMember(m.From) {
		return
	}
	a.back(m.From)
	if a.isBacked() {
		a.lead()
	}
}

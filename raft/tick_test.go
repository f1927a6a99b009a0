package raft_test

import (
	"math"
	"testing"

	"furlong/api"
	"furlong/raft"
)

// older is r with another age.
func older(r api.Raft, age int) api.Raft {
	r.Age = age
	return r
}

// ask is what me asks id for, at the end of log follower has.
func ask(kind int, id, term int64) api.Wire {
	return but(said(kind, id, term), func(m *api.Wire) { m.Index, m.LogTerm = 8, 4 })
}

// campaigning is r as it asks the others whether they would vote for it.
func campaigning(r api.Raft, draw int) api.Raft {
	return with(r, func(r *api.Raft) {
		r.Age, r.Draw, r.Lead, r.Role, r.Granted = 0, draw, 0, api.RolePre, []int64{me}
	})
}

// leading is r as it begins to lead in the next Term, with such an entry more, and
// as many others.
func leading(r api.Raft, others ...int64) api.Raft {
	return with(r, func(r *api.Raft) {
		r.Term++
		r.Age, r.Vote, r.Lead, r.Role, r.Granted, r.Progress = 0, r.Me, r.Me, api.RoleLeader, nil, nil
		r.Roll.Entries = append(r.Roll.Entries, api.Entry{Term: r.Term, Text: empty})
		for _, id := range others {
			r.Progress = append(r.Progress, api.Progress{Id: id, Next: r.Roll.Base + int64(len(r.Roll.Entries)) + 1})
		}
	})
}

func TestP13_3TickOfOneWhoWaits(t *testing.T) {
	for _, r := range []api.Raft{follower(), alone(), asking(), standing()} {
		for age := range 9 {
			ticks(t, "below Draw", older(r, age), three(), 17, older(r, age+1))
		}
		ticks(t, "Draw", older(r, 9), three(), 17, campaigning(r, 17), ask(api.RaPre, 1, 6), ask(api.RaPre, 6, 6))
		for _, age := range []int{10, 11, 39, 1000, math.MaxInt - 1, math.MaxInt} {
			ticks(t, "above Draw", older(r, age), three(), 17, campaigning(r, 17), ask(api.RaPre, 1, 6), ask(api.RaPre, 6, 6))
		}
	}
}

func TestP13_3TickGoesByDraw(t *testing.T) {
	for _, draw := range []int{6, 7, 23, 39, 40} {
		r := with(follower(), func(r *api.Raft) { r.Draw = draw })
		ticks(t, "just below", older(r, draw-2), three(), 9, older(r, draw-1))
		ticks(t, "at it", older(r, draw-1), three(), 9, campaigning(r, 9), ask(api.RaPre, 1, 6), ask(api.RaPre, 6, 6))
	}
}

func TestP13_3TickTakesTheNextDraw(t *testing.T) {
	for _, c := range []struct{ draw, want int }{
		{math.MinInt, 6}, {-1, 6}, {0, 6}, {5, 6}, {6, 6}, {7, 7}, {39, 39}, {40, 40}, {41, 40}, {math.MaxInt, 40},
	} {
		ticks(t, "a campaign", older(follower(), 9), three(), c.draw, campaigning(follower(), c.want), ask(api.RaPre, 1, 6), ask(api.RaPre, 6, 6))
		ticks(t, "none", older(follower(), 3), three(), c.draw, older(follower(), 4))
		ticks(t, "a leader", older(leader(), 0), three(), c.draw, older(leader(), 1))
	}
}

// Who is no member says nothing, nor does he who has no Term behind his own; both
// forget who leads.
func TestP13_3TickOfOneWhoMayNotCampaign(t *testing.T) {
	for _, r := range []api.Raft{follower(), alone(), asking(), standing()} {
		quiet := with(r, func(r *api.Raft) { r.Age, r.Draw, r.Lead = 0, 30, 0 })
		for _, d := range []api.Desc{group(1, 6), group(1), group(1, 2, 4, 5, 6), group(), {}} {
			ticks(t, "no member", older(r, 9), d, 30, quiet)
			ticks(t, "no member, below Draw", older(r, 8), d, 30, older(r, 9))
		}
		late := with(r, func(r *api.Raft) { r.Term = maxTerm })
		ticks(t, "the last Term", older(late, 9), three(), 30, with(quiet, func(r *api.Raft) { r.Term = maxTerm }))
		ticks(t, "the last Term, alone", older(late, 9), group(me), 30, with(quiet, func(r *api.Raft) { r.Term = maxTerm }))
	}
	last := with(follower(), func(r *api.Raft) { r.Term = maxTerm - 1 })
	ticks(t, "one ahead of the last Term", older(last, 9), three(), 9, campaigning(last, 9), ask(api.RaPre, 1, maxTerm), ask(api.RaPre, 6, maxTerm))
}

func TestP13_3TickAsksAllOthers(t *testing.T) {
	two := campaigning(follower(), 9)
	ticks(t, "two", older(follower(), 9), group(me, 6), 9, two, ask(api.RaPre, 6, 6))
	ticks(t, "two, the other one ahead", older(follower(), 9), group(1, me), 9, two, ask(api.RaPre, 1, 6))
	ticks(t, "five", older(follower(), 9), group(1, 2, me, 4, 6), 9, two, ask(api.RaPre, 1, 6), ask(api.RaPre, 2, 6), ask(api.RaPre, 4, 6), ask(api.RaPre, 6, 6))
	none := raft.New(me, 6)
	ticks(t, "no log", older(none, 5), three(), 6, campaigning(none, 6), said(api.RaPre, 1, 1), said(api.RaPre, 6, 1))
	base := with(follower(), func(r *api.Raft) { r.Roll, r.Commit = logOf(8, 4), 8 })
	ticks(t, "a base alone", older(base, 9), three(), 9, campaigning(base, 9), ask(api.RaPre, 1, 6), ask(api.RaPre, 6, 6))
}

// Alone one needs nobody's vote, nor anybody's answer.
func TestP13_3TickOfAGroupOfOne(t *testing.T) {
	all := with(leading(follower()), func(r *api.Raft) { r.Commit, r.Draw = 9, 12 })
	ticks(t, "alone", older(follower(), 9), group(me), 12, all)
	ticks(t, "below Draw", older(follower(), 8), group(me), 12, older(follower(), 9))
	first := api.Raft{Me: me, Term: 1, Vote: me, Lead: me, Role: api.RoleLeader, Commit: 1, Draw: 12, Roll: api.Roll{Entries: []api.Entry{{Term: 1, Text: empty}}}}
	ticks(t, "who has nothing", older(raft.New(me, 0), 5), group(me), 12, first)
	last := with(follower(), func(r *api.Raft) { r.Term = maxTerm - 1 })
	ticks(t, "the last Term", older(last, 9), group(me), 12, with(leading(last), func(r *api.Raft) { r.Commit, r.Draw = 9, 12 }))
}

func TestP13_3TickOfALeader(t *testing.T) {
	to1 := but(said(api.RaAppend, 1, 4), func(m *api.Wire) { m.Index, m.LogTerm, m.Commit, m.Entries = 6, 2, 6, written(7, 4, 4) })
	to6 := but(said(api.RaAppend, 6, 4), func(m *api.Wire) { m.Index, m.LogTerm, m.Commit = 8, 4, 6 })
	ticks(t, "below Heart", older(leader(), 0), three(), 12, older(leader(), 1))
	ticks(t, "at Heart", older(leader(), 1), three(), 12, leader(), to1, to6)
	for _, age := range []int{2, 5, 9, 10, 40, math.MaxInt - 1, math.MaxInt} {
		ticks(t, "above Heart", older(leader(), age), three(), 12, leader(), to1, to6)
	}
	// It leads until somebody else does, also who is no member any more.
	gone := with(leader(), func(r *api.Raft) { r.Progress = r.Progress[:1] })
	ticks(t, "no member", older(leader(), 1), group(1), 12, gone, to1)
	ticks(t, "alone", older(leader(), 1), group(me), 12, with(leader(), func(r *api.Raft) { r.Progress = nil }))
	// A heart beat agrees upon nothing.
	ready := with(leader(), func(r *api.Raft) { r.Progress[1].Match = 8 })
	ticks(t, "what is agreed upon already", older(ready, 1), three(), 12, ready, to1, to6)
}

func TestP13_3StandAndLead(t *testing.T) {
	stands := with(asking(), func(r *api.Raft) { r.Term, r.Vote, r.Role = 6, me, api.RoleCand })
	r := with(asking(), func(r *api.Raft) { r.Vote, r.Lead, r.Age = 1, 6, 7 })
	stands.Age = 7
	steps(t, "stands", r, three(), wire(api.RaPreOk, 6, 6), stands, ask(api.RaVote, 1, 6), ask(api.RaVote, 6, 6))
	stands = with(stands, func(r *api.Raft) { r.Lead = 1 })
	leads := leading(with(stands, func(r *api.Raft) { r.Term = 5 }), 1, 6)
	to := func(id int64) api.Wire {
		return but(said(api.RaAppend, id, 6), func(m *api.Wire) { m.Index, m.LogTerm, m.Commit = 9, 6, 5 })
	}
	steps(t, "leads", stands, three(), wire(api.RaVoteOk, 1, 6), leads, to(1), to(6))
}

// Example 1: three replicas, one of which has its age.
func TestP13_3Example1(t *testing.T) {
	d := group(1, 2, 3)
	r := map[int64]api.Raft{1: raft.New(1, 0), 2: raft.New(2, 30), 3: raft.New(3, 30)}
	var l []api.Wire
	for range 6 {
		if l != nil {
			t.Fatal(show(l))
		}
		r[1], l = raft.Tick(r[1], d, 9)
	}
	deliver := func(kinds ...int) {
		t.Helper()
		var out []api.Wire
		for i, m := range l {
			if m.Kind != kinds[0] || len(l) != len(kinds) {
				t.Fatalf("%s at %d of %v", show(l), i, kinds)
			}
			var more []api.Wire
			r[m.To], more = raft.Step(r[m.To], d, m)
			out = append(out, more...)
		}
		l = out
	}
	deliver(api.RaPre, api.RaPre)
	deliver(api.RaPreOk, api.RaPreOk)
	deliver(api.RaVote, api.RaVote)
	deliver(api.RaVoteOk, api.RaVoteOk)
	leads := leading(raft.New(1, 9), 2, 3)
	if !sameRaft(r[1], leads) {
		t.Fatal(show(r[1]))
	}
	deliver(api.RaAppend, api.RaAppend)
	for len(l) > 0 {
		m := l[0]
		var more []api.Wire
		r[m.To], more = raft.Step(r[m.To], d, m)
		l = append(l[1:], more...)
	}
	for id := range int64(3) {
		if x := r[id+1]; x.Commit != 1 || x.Term != 1 || x.Lead != 1 || len(x.Roll.Entries) != 1 || x.Roll.Entries[0].Text != empty {
			t.Error(show(x))
		}
	}
}

package raft_test

import (
	"math"
	"slices"
	"testing"

	"furlong/api"
	"furlong/raft"
)

// followed is r as a follower in a term.
func followed(r api.Raft, term, lead int64) api.Raft {
	return with(r, func(r *api.Raft) {
		if term > r.Term {
			r.Term, r.Vote = term, 0
		}
		r.Role, r.Lead, r.Granted, r.Progress, r.Age = api.RoleFollower, lead, nil, nil, 0
	})
}

// logAt is m, which tells of a log that ends with that Term and index.
func logAt(m api.Wire, term, index int64) api.Wire {
	m.LogTerm, m.Index = term, index
	return m
}

// kinds are the kinds of messages.
func kinds() []int {
	return []int{api.RaPre, api.RaPreOk, api.RaVote, api.RaVoteOk, api.RaAppend, api.RaAppendOk, api.RaSnap}
}

func TestP13_4StepOfWhatIsNotForIt(t *testing.T) {
	for _, r := range four() {
		for _, kind := range append(kinds(), 0, 8, -1, math.MaxInt, math.MinInt) {
			ok := but(wire(kind, 1, 9), func(m *api.Wire) { m.Index, m.LogTerm = 8, 4 })
			for _, to := range []int64{0, 1, 2, 4, 6, -me, me + 1<<32, maxId, math.MaxInt64, math.MinInt64} {
				nothing(t, "To another one", r, three(), but(ok, func(m *api.Wire) { m.To = to }))
				nothing(t, "To another one, From me", r, three(), but(ok, func(m *api.Wire) { m.To, m.From = to, me }))
			}
			nothing(t, "From me", r, three(), but(ok, func(m *api.Wire) { m.From = me }))
			for _, from := range []int64{0, -1, maxId + 1, math.MaxInt64, math.MinInt64} {
				nothing(t, "From nobody", r, three(), but(ok, func(m *api.Wire) { m.From = from }))
			}
			for _, term := range []int64{0, -1, maxTerm + 1, math.MaxInt64, math.MinInt64} {
				nothing(t, "of no Term", r, three(), but(ok, func(m *api.Wire) { m.Term = term }))
			}
		}
	}
}

func TestP13_4StepOfAKindThatThereIsNot(t *testing.T) {
	for _, r := range four() {
		for _, kind := range []int{0, 8, 9, -1, -7, 1<<32 + 1, math.MaxInt, math.MinInt} {
			for _, term := range []int64{1, 4, 5, 6, maxTerm} {
				nothing(t, "another kind", r, three(), logAt(wire(kind, 1, term), 4, 8))
			}
		}
	}
}

// From whom a request comes has no part, but that it is answered to him.
func TestP13_4StepAnswersAnybody(t *testing.T) {
	for _, from := range []int64{1, 2, 4, 6, 99, maxId - 1, maxId} {
		steps(t, "RaPre", alone(), three(), logAt(wire(api.RaPre, from, 6), 4, 8), alone(), said(api.RaPreOk, from, 6))
		voted := with(followed(alone(), 6, 0), func(r *api.Raft) { r.Vote = from })
		steps(t, "RaVote", alone(), three(), logAt(wire(api.RaVote, from, 6), 4, 8), voted, said(api.RaVoteOk, from, 6))
		steps(t, "RaVote, in another group", alone(), group(from), logAt(wire(api.RaVote, from, 6), 4, 8), voted, said(api.RaVoteOk, from, 6))
		steps(t, "RaVote, in none", alone(), api.Desc{}, logAt(wire(api.RaVote, from, 6), 4, 8), voted, said(api.RaVoteOk, from, 6))
	}
}

func TestP13_4PreIsGranted(t *testing.T) {
	for _, r := range []api.Raft{alone(), asking(), standing(), with(leader(), func(r *api.Raft) { r.Lead = 0 })} {
		for _, term := range []int64{r.Term + 1, r.Term + 2, 99, maxTerm} {
			m := wire(api.RaPre, 1, term)
			for _, m := range []api.Wire{logAt(m, 4, 8), logAt(m, 4, 9), logAt(m, 4, maxIndex), logAt(m, 5, 8), logAt(m, 5, 0), logAt(m, 6, -1), logAt(m, maxTerm, 3), logAt(m, math.MaxInt64, math.MinInt64)} {
				steps(t, "granted", r, three(), m, r, said(api.RaPreOk, 1, term))
			}
		}
	}
}

func TestP13_4PreIsRefusedInNoLaterTerm(t *testing.T) {
	for _, r := range []api.Raft{alone(), asking(), standing()} {
		for _, term := range []int64{1, 2, 4, 5} {
			steps(t, "a Term not above", r, three(), logAt(wire(api.RaPre, 1, term), 9, 99), r, no(said(api.RaPreOk, 1, 5)))
		}
	}
	late := with(alone(), func(r *api.Raft) { r.Term = maxTerm })
	steps(t, "the last Term", late, three(), logAt(wire(api.RaPre, 1, maxTerm), 9, 99), late, no(said(api.RaPreOk, 1, maxTerm)))
	none := api.Raft{Me: me, Draw: 6}
	steps(t, "a log that is behind, of one without a Term", with(none, func(r *api.Raft) { r.Roll.Base, r.Commit = 5, 5 }), three(), wire(api.RaPre, 1, 1),
		with(none, func(r *api.Raft) { r.Roll.Base, r.Commit = 5, 5 }), no(said(api.RaPreOk, 1, 0)))
	steps(t, "none has a log", none, three(), wire(api.RaPre, 1, 1), none, said(api.RaPreOk, 1, 1))
}

func TestP13_4PreIsRefusedToALogThatIsBehind(t *testing.T) {
	for _, r := range []api.Raft{alone(), asking(), standing()} {
		m := wire(api.RaPre, 1, 6)
		for _, m := range []api.Wire{m, logAt(m, 4, 7), logAt(m, 4, 0), logAt(m, 3, 8), logAt(m, 3, 99), logAt(m, 0, maxIndex), logAt(m, -1, maxIndex), logAt(m, math.MinInt64, math.MaxInt64)} {
			steps(t, "behind", r, three(), m, r, no(said(api.RaPreOk, 1, 5)))
		}
	}
}

// Who has heard of a leader so short a time ago wants no other one.
func TestP13_4PreIsRefusedWhereSomebodyLeads(t *testing.T) {
	m := logAt(wire(api.RaPre, 1, 6), 4, 8)
	for _, lead := range []int64{1, 2, me, 6, maxId} {
		for age := range 10 {
			r := with(follower(), func(r *api.Raft) { r.Lead, r.Age = lead, age })
			if age < 6 {
				steps(t, "it knows a leader", r, three(), m, r, no(said(api.RaPreOk, 1, 5)))
			} else {
				steps(t, "it knew a leader", r, three(), m, r, said(api.RaPreOk, 1, 6))
			}
			r.Lead = 0
			steps(t, "it knows none", r, three(), m, r, said(api.RaPreOk, 1, 6))
		}
	}
	for age := range 2 {
		r := older(leader(), age)
		steps(t, "it leads", r, three(), m, r, no(said(api.RaPreOk, 1, 4)))
	}
	// The age that it should campaign at has no part.
	r := with(follower(), func(r *api.Raft) { r.Draw, r.Age = 6, 5 })
	steps(t, "just below", r, three(), m, r, no(said(api.RaPreOk, 1, 5)))
	r = with(follower(), func(r *api.Raft) { r.Draw, r.Age = 40, 6 })
	steps(t, "at it", r, three(), m, r, said(api.RaPreOk, 1, 6))
}

func TestP13_4PreOkWithReject(t *testing.T) {
	for _, r := range four() {
		for _, from := range []int64{1, 2, 6, maxId} {
			for term := r.Term + 1; term < r.Term+4; term++ {
				steps(t, "a greater Term", r, three(), no(wire(api.RaPreOk, from, term)), followed(r, term, 0))
			}
			steps(t, "the last Term", r, three(), no(wire(api.RaPreOk, from, maxTerm)), followed(r, maxTerm, 0))
			for term := int64(1); term <= r.Term; term++ {
				nothing(t, "no greater Term", r, three(), no(wire(api.RaPreOk, from, term)))
			}
		}
	}
}

func TestP13_4PreOkMakesAQuorum(t *testing.T) {
	stands := with(asking(), func(r *api.Raft) { r.Term, r.Vote, r.Role = 6, me, api.RoleCand })
	votes := func(ids ...int64) []api.Wire {
		var l []api.Wire
		for _, id := range ids {
			l = append(l, ask(api.RaVote, id, 6))
		}
		return l
	}
	steps(t, "two of two", asking(), group(me, 6), wire(api.RaPreOk, 6, 6), stands, votes(6)...)
	steps(t, "two of three", asking(), three(), wire(api.RaPreOk, 1, 6), stands, votes(1, 6)...)
	five := group(1, 2, me, 4, 6)
	granted := with(asking(), func(r *api.Raft) { r.Granted = []int64{me, 6} })
	steps(t, "two of five", asking(), five, wire(api.RaPreOk, 6, 6), granted)
	steps(t, "three of five", granted, five, wire(api.RaPreOk, 1, 6), stands, votes(1, 2, 4, 6)...)
	steps(t, "the same one again", granted, five, wire(api.RaPreOk, 6, 6), granted)
	for _, c := range []struct {
		id   int64
		want []int64
	}{{1, []int64{1, me}}, {2, []int64{2, me}}, {4, []int64{me, 4}}, {6, []int64{me, 6}}} {
		steps(t, "by rising numbers", asking(), five, wire(api.RaPreOk, c.id, 6), with(asking(), func(r *api.Raft) { r.Granted = c.want }))
	}
	// Who went from the group counts no more.
	gone := with(asking(), func(r *api.Raft) { r.Granted = []int64{2, me, 9} })
	steps(t, "two are gone", gone, group(1, me, 4, 6), wire(api.RaPreOk, 6, 6), with(gone, func(r *api.Raft) { r.Granted = []int64{2, me, 6, 9} }))
	// Nor does it itself; it stands all the same, if enough others want it.
	others := with(asking(), func(r *api.Raft) { r.Granted = []int64{me} })
	steps(t, "it is gone", others, group(1, 6), wire(api.RaPreOk, 1, 6), with(others, func(r *api.Raft) { r.Granted = []int64{1, me} }))
	others = with(asking(), func(r *api.Raft) { r.Granted = []int64{1, me} })
	steps(t, "it is gone, and both others want it", others, group(1, 6), wire(api.RaPreOk, 6, 6), stands, votes(1, 6)...)
	last := with(asking(), func(r *api.Raft) { r.Term = maxTerm - 1 })
	steps(t, "the last Term", last, group(me, 6), wire(api.RaPreOk, 6, maxTerm), with(stands, func(r *api.Raft) { r.Term = maxTerm }), ask(api.RaVote, 6, maxTerm))
	// A quorum that is there already needs no new one.
	ready := with(asking(), func(r *api.Raft) { r.Granted = []int64{1, me} })
	steps(t, "the same one makes it", ready, three(), wire(api.RaPreOk, 1, 6), stands, votes(1, 6)...)
	alone := with(asking(), func(r *api.Raft) { r.Granted = nil })
	steps(t, "it is elected at once", alone, group(6), wire(api.RaPreOk, 6, 6), with(stands, func(r *api.Raft) {}), votes(6)...)
}

func TestP13_4PreOkOfNoUse(t *testing.T) {
	for _, term := range []int64{1, 4, 5, 7, 8, maxTerm} {
		nothing(t, "not the next Term", asking(), three(), wire(api.RaPreOk, 1, term))
		nothing(t, "not the next Term, of two", asking(), group(1, me), wire(api.RaPreOk, 1, term))
	}
	for _, id := range []int64{2, 4, 7, maxId} {
		nothing(t, "no member", asking(), three(), wire(api.RaPreOk, id, 6))
		nothing(t, "of no group", asking(), api.Desc{}, wire(api.RaPreOk, id, 6))
	}
	for _, r := range []api.Raft{follower(), alone(), standing(), leader()} {
		for term := int64(1); term < 9; term++ {
			nothing(t, "it did not ask", r, three(), wire(api.RaPreOk, 1, term))
		}
	}
}

func TestP13_4VoteIsGranted(t *testing.T) {
	for _, c := range []struct {
		r    api.Raft
		vote int64
	}{{alone(), 0}, {alone(), 1}, {follower(), 0}, {follower(), 1}} {
		r := with(c.r, func(r *api.Raft) { r.Vote = c.vote })
		m := wire(api.RaVote, 1, 5)
		for _, m := range []api.Wire{logAt(m, 4, 8), logAt(m, 4, 9), logAt(m, 4, maxIndex), logAt(m, 5, 8), logAt(m, 5, 0), logAt(m, maxTerm, -1)} {
			steps(t, "its Term", r, three(), m, with(r, func(r *api.Raft) { r.Vote, r.Age = 1, 0 }), said(api.RaVoteOk, 1, 5))
		}
		nothingBut := no(said(api.RaVoteOk, 1, 5))
		for _, m := range []api.Wire{m, logAt(m, 4, 7), logAt(m, 3, 8), logAt(m, 3, 99), logAt(m, -1, maxIndex)} {
			steps(t, "a log that is behind", r, three(), m, r, nothingBut)
		}
	}
	// Asked again by the same one, it votes again.
	voted := with(alone(), func(r *api.Raft) { r.Vote, r.Age = 6, 0 })
	steps(t, "once", alone(), three(), logAt(wire(api.RaVote, 6, 5), 4, 8), voted, said(api.RaVoteOk, 6, 5))
	steps(t, "twice", older(voted, 4), three(), logAt(wire(api.RaVote, 6, 5), 4, 8), voted, said(api.RaVoteOk, 6, 5))
	steps(t, "another one", older(voted, 4), three(), logAt(wire(api.RaVote, 1, 5), 5, 99), older(voted, 4), no(said(api.RaVoteOk, 1, 5)))
}

func TestP13_4VoteIsRefused(t *testing.T) {
	for _, id := range []int64{2, me, 4, 6, 9, maxId} {
		r := with(follower(), func(r *api.Raft) { r.Vote = id })
		steps(t, "a Vote of another one", r, three(), logAt(wire(api.RaVote, 1, 5), 5, 99), r, no(said(api.RaVoteOk, 1, 5)))
	}
	for _, r := range []api.Raft{follower(), asking(), standing()} {
		for term := int64(1); term < 5; term++ {
			steps(t, "a lesser Term", r, three(), logAt(wire(api.RaVote, 1, term), 5, 99), r, no(said(api.RaVoteOk, 1, 5)))
		}
	}
	for _, vote := range []int64{0, 1, me} {
		for _, r := range []api.Raft{asking(), standing(), with(leader(), func(r *api.Raft) { r.Term = 5 })} {
			r.Vote = vote
			steps(t, "no follower", r, three(), logAt(wire(api.RaVote, 1, 5), 5, 99), r, no(said(api.RaVoteOk, 1, 5)))
		}
	}
}

func TestP13_4VoteInAGreaterTerm(t *testing.T) {
	for _, r := range four() {
		for _, vote := range []int64{0, 1, me, 6} {
			r.Vote = vote
			for _, term := range []int64{r.Term + 1, r.Term + 7, maxTerm} {
				voted := with(followed(r, term, 0), func(r *api.Raft) { r.Vote = 1 })
				steps(t, "granted", r, three(), logAt(wire(api.RaVote, 1, term), 4, 8), voted, said(api.RaVoteOk, 1, term))
				steps(t, "behind", r, three(), logAt(wire(api.RaVote, 1, term), 4, 7), followed(r, term, 0), no(said(api.RaVoteOk, 1, term)))
			}
		}
	}
}

func TestP13_4VoteOkOfAGreaterTerm(t *testing.T) {
	for _, r := range four() {
		for _, term := range []int64{r.Term + 1, r.Term + 2, r.Term + 9, maxTerm} {
			for _, from := range []int64{1, 2, 6, maxId} {
				steps(t, "with Reject", r, three(), no(wire(api.RaVoteOk, from, term)), followed(r, term, 0))
				steps(t, "without", r, three(), wire(api.RaVoteOk, from, term), followed(r, term, 0))
			}
		}
	}
}

func TestP13_4VoteOkMakesAQuorum(t *testing.T) {
	told := func(ids ...int64) []api.Wire {
		var l []api.Wire
		for _, id := range ids {
			l = append(l, but(said(api.RaAppend, id, 5), func(m *api.Wire) { m.Index, m.LogTerm, m.Commit = 9, 5, 5 }))
		}
		return l
	}
	leads := func(r api.Raft, others ...int64) api.Raft {
		return leading(with(r, func(r *api.Raft) { r.Term = 4 }), others...)
	}
	steps(t, "two of two", standing(), group(me, 6), wire(api.RaVoteOk, 6, 5), leads(standing(), 6), told(6)...)
	steps(t, "two of three", standing(), three(), wire(api.RaVoteOk, 1, 5), leads(standing(), 1, 6), told(1, 6)...)
	five := group(1, 2, me, 4, 6)
	granted := with(standing(), func(r *api.Raft) { r.Granted = []int64{1, me} })
	steps(t, "two of five", standing(), five, wire(api.RaVoteOk, 1, 5), granted)
	steps(t, "three of five", granted, five, wire(api.RaVoteOk, 4, 5), leads(standing(), 1, 2, 4, 6), told(1, 2, 4, 6)...)
	steps(t, "the same one again", granted, five, wire(api.RaVoteOk, 1, 5), granted)
	for _, c := range []struct {
		id   int64
		want []int64
	}{{1, []int64{1, me}}, {2, []int64{2, me}}, {4, []int64{me, 4}}, {6, []int64{me, 6}}} {
		steps(t, "by rising numbers", standing(), five, wire(api.RaVoteOk, c.id, 5), with(standing(), func(r *api.Raft) { r.Granted = c.want }))
	}
	gone := with(standing(), func(r *api.Raft) { r.Granted = []int64{2, me, 9} })
	steps(t, "two are gone", gone, group(1, me, 4, 6), wire(api.RaVoteOk, 6, 5), with(gone, func(r *api.Raft) { r.Granted = []int64{2, me, 6, 9} }))
	ready := with(standing(), func(r *api.Raft) { r.Granted = []int64{1, me} })
	steps(t, "the same one makes it", ready, three(), wire(api.RaVoteOk, 1, 5), leads(standing(), 1, 6), told(1, 6)...)
	// What a candidate knew of others, and that it was old, is over.
	full := with(standing(), func(r *api.Raft) { r.Progress, r.Age = leader().Progress, 9 })
	steps(t, "what it knew", full, three(), wire(api.RaVoteOk, 1, 5), leads(standing(), 1, 6), told(1, 6)...)
}

func TestP13_4VoteOkOfNoUse(t *testing.T) {
	for _, term := range []int64{1, 2, 3, 4} {
		nothing(t, "a lesser Term", standing(), three(), wire(api.RaVoteOk, 1, term))
		nothing(t, "a lesser Term, with Reject", standing(), three(), no(wire(api.RaVoteOk, 1, term)))
	}
	nothing(t, "with Reject", standing(), three(), no(wire(api.RaVoteOk, 1, 5)))
	nothing(t, "with Reject, of two", standing(), group(1, me), no(wire(api.RaVoteOk, 1, 5)))
	for _, id := range []int64{2, 4, 7, maxId} {
		nothing(t, "no member", standing(), three(), wire(api.RaVoteOk, id, 5))
		nothing(t, "of no group", standing(), api.Desc{}, wire(api.RaVoteOk, id, 5))
	}
	for _, r := range []api.Raft{follower(), alone(), asking(), leader()} {
		for term := int64(1); term <= r.Term; term++ {
			nothing(t, "it did not ask", r, three(), wire(api.RaVoteOk, 1, term))
			nothing(t, "it did not ask, with Reject", r, three(), no(wire(api.RaVoteOk, 1, term)))
		}
	}
}

// What is told beside has no part.
func TestP13_4VotesGoByTheirFields(t *testing.T) {
	for _, kind := range kinds()[:4] {
		for _, r := range four() {
			m := logAt(wire(kind, 1, 6), 4, 8)
			want, out := raft.Step(r, three(), m)
			more := but(m, func(m *api.Wire) { m.Commit, m.Hint, m.Entries, m.Text = 8, 7, written(9, 9), "x" })
			steps(t, "more", r, three(), more, want, out...)
			if slices.Contains([]int{api.RaPre, api.RaVote}, kind) {
				steps(t, "with Reject", r, three(), no(m), want, out...)
			}
		}
	}
}

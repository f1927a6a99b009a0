package raft_test

import (
	"math"
	"math/rand/v2"
	"slices"
	"testing"

	"furlong/api"
	"furlong/raft"
)

// wildWires are messages of all kinds to r, with numbers at the edges and beyond
// them.
func wildWires(r api.Raft) []api.Wire {
	numbers := []int64{0, 1, 3, 5, 8, 9, -1, maxIndex, maxIndex + 1, math.MaxInt64, math.MinInt64}
	var l []api.Wire
	for _, kind := range append(kinds(), 0, 8) {
		for _, term := range []int64{1, 4, 5, 6, maxTerm} {
			for i, n := range numbers {
				other := numbers[(i*3+kind+4)%len(numbers)]
				m := api.Wire{Kind: kind, From: 1, To: r.Me, Term: term, Index: n, LogTerm: other, Commit: other, Hint: n}
				l = append(l, m, no(m), but(m, func(m *api.Wire) {
					m.From, m.Index, m.LogTerm, m.Hint = 6, other, 4, other
					m.Entries = written(n, 4, 5, 5)
				}))
			}
		}
	}
	return append(l, api.Wire{}, api.Wire{Kind: 5, From: 1, To: r.Me, Term: 5, Index: 3, LogTerm: 1, Entries: written(4, 1, -5, maxTerm+1)})
}

// pure fails, unless a call answers, twice the same, and leaves what it was given
// as it was.
func pure(t *testing.T, what string, r api.Raft, d api.Desc, m api.Wire) {
	t.Helper()
	for i, c := range []call{
		raft.Step,
		func(r api.Raft, d api.Desc, m api.Wire) (api.Raft, []api.Wire) { return raft.Tick(r, d, int(m.Index)) },
		func(r api.Raft, d api.Desc, m api.Wire) (api.Raft, []api.Wire) { return raft.Tell(r, d) },
		func(r api.Raft, d api.Desc, m api.Wire) (api.Raft, []api.Wire) {
			got, l, ok := raft.Propose(r, d, "x")
			if !ok && len(l) > 0 {
				t.Errorf("%s: false, and says %s", what, show(l))
			}
			return got, l
		},
		func(r api.Raft, d api.Desc, m api.Wire) (api.Raft, []api.Wire) {
			return api.Raft{Role: int(raft.Check(r))}, nil
		},
	} {
		if i > 0 && m.Kind != 0 {
			// They have no part in the message.
			break
		}
		in := hand(r, d, m)
		got, l := c(in.r, in.d, in.m)
		again, l2 := c(in.r, in.d, in.m)
		if !sameRaft(got, again) || !slices.EqualFunc(l, l2, sameWire) {
			t.Fatalf("%s: of %s, %s, and %s", what, show(r), show(got), show(again))
		}
		in.untouched(t, what, r, d, m)
	}
}

func TestP13_1RaftsThatMayNotBe(t *testing.T) {
	all := groups()
	for i, c := range wrong() {
		for j, m := range wildWires(c.r) {
			pure(t, c.name, c.r, all[(i+j)%len(all)], m)
		}
	}
}

func TestP13_1RaftsThatMayBeInGroupsOfAllKinds(t *testing.T) {
	all := groups()
	for i, c := range right() {
		for j, m := range wildWires(c.r) {
			pure(t, c.name, c.r, all[(i+j)%len(all)], m)
		}
	}
}

// followers are what r may become next in the group d.
func followers(r api.Raft, d api.Desc, m api.Wire, draw int) []api.Raft {
	x, _ := raft.Step(r, d, m)
	y, _ := raft.Tick(r, d, draw)
	z, _, _ := raft.Propose(r, d, "x")
	w, _ := raft.Tell(r, d)
	return []api.Raft{x, y, z, w}
}

// A raft is followed by a raft, as long as its log is not full: who comes to lead
// then writes an entry behind the last one that may be.
func TestP13_1ARaftIsFollowedByARaft(t *testing.T) {
	all := groups()[:rightGroups]
	for i, c := range right() {
		for j, m := range wildWires(c.r) {
			d := all[(i+j)%len(all)]
			for _, x := range followers(c.r, d, m, j) {
				index := x.Roll.Base + int64(len(x.Roll.Entries))
				if raft.Check(x) != api.OK && index <= maxIndex {
					t.Fatalf("%s: %s of %s in %s: %s", c.name, show(m), show(c.r), show(d), show(x))
				}
			}
		}
	}
	c := chance{rand.New(rand.NewPCG(13, 1))}
	for range 100000 {
		r, d := c.raft(), c.group()
		m := c.wire(r)
		for _, x := range followers(r, d, m, c.IntN(50)) {
			if raft.Check(x) != api.OK {
				t.Fatalf("%s of %s in %s: %s", show(m), show(r), show(d), show(x))
			}
		}
	}
}

// As its words say: also where the log is full, who comes to lead writes.
func TestP13_3LeadOfAFullLog(t *testing.T) {
	full := with(follower(), func(r *api.Raft) { r.Roll, r.Commit, r.Age = logOf(maxIndex-1, 4, 4), maxIndex, 9 })
	r, l := raft.Tick(full, group(me), 9)
	if r.Role != api.RoleLeader || len(r.Roll.Entries) != 2 || r.Roll.Entries[1].Text != empty || len(l) != 0 {
		t.Errorf("%s %s", show(r), show(l))
	}
}

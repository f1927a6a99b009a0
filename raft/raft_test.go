package raft_test

import (
	"math"
	"testing"

	"furlong/api"
	"furlong/raft"
)

// checks holds what Check answers against what it should, and what was handed in
// against what it was.
func checks(t *testing.T, what string, r api.Raft, want api.Errno) {
	t.Helper()
	for range 2 {
		in := hand(r, api.Desc{}, api.Wire{})
		if got := raft.Check(in.r); got != want {
			t.Errorf("%s: Check of %s: %d, not %d", what, show(r), got, want)
		}
		in.untouched(t, what, r, api.Desc{}, api.Wire{})
	}
}

func TestP13_1CheckTakesWhatMayBe(t *testing.T) {
	for _, c := range right() {
		checks(t, c.name, c.r, api.OK)
	}
}

func TestP13_1CheckRefusesWhatMayNotBe(t *testing.T) {
	for _, c := range wrong() {
		checks(t, c.name, c.r, api.ErrArg)
	}
}

// Whatever else is told of one that may not be, one field is enough.
func TestP13_1CheckOfManyNumbers(t *testing.T) {
	for _, n := range []int64{math.MinInt64, -maxId, -2, -1, 0, 1, 2, 3, 4, 5, 6, 8, 9, 40, 41, maxId - 1, maxId, maxId + 1, maxId + 2, math.MaxInt64} {
		for _, c := range []struct {
			name   string
			change func(r *api.Raft)
			ok     bool
		}{
			{"Me", func(r *api.Raft) { r.Me = n }, 1 <= n && n <= maxId},
			{"Term", func(r *api.Raft) { r.Term = n }, 4 <= n && n <= maxTerm},
			{"Term of nothing", func(r *api.Raft) { r.Term, r.Roll, r.Commit = n, api.Roll{}, 0 }, 0 <= n && n <= maxTerm},
			{"Vote", func(r *api.Raft) { r.Vote = n }, 0 <= n && n <= maxId},
			{"Lead", func(r *api.Raft) { r.Lead = n }, 0 <= n && n <= maxId},
			{"Commit", func(r *api.Raft) { r.Commit = n }, 3 <= n && n <= 8},
			{"Role", func(r *api.Raft) { r.Role = int(n) }, 0 <= n && n <= 3},
			{"Granted", func(r *api.Raft) { r.Granted = []int64{n} }, 1 <= n && n <= maxId},
			{"Granted behind 4", func(r *api.Raft) { r.Granted = []int64{4, n} }, 5 <= n && n <= maxId},
			{"Granted ahead of 4", func(r *api.Raft) { r.Granted = []int64{n, 4} }, 1 <= n && n <= 3},
			{"Id", func(r *api.Raft) { r.Progress = []api.Progress{{Id: n, Next: 3}} }, 1 <= n && n <= maxId},
			{"Id behind 4", func(r *api.Raft) { r.Progress = []api.Progress{{Id: 4, Next: 9, Match: 8}, {Id: n, Next: 3}} }, 5 <= n && n <= maxId},
			{"Id ahead of 4", func(r *api.Raft) { r.Progress = []api.Progress{{Id: n, Next: 9, Match: 8}, {Id: 4, Next: 3}} }, 1 <= n && n <= 3},
			{"Next", func(r *api.Raft) { r.Progress = []api.Progress{{Id: 4, Next: n}} }, 1 <= n && n <= maxIndex+1},
			{"Next and a Match", func(r *api.Raft) { r.Progress = []api.Progress{{Id: 4, Next: n, Match: 5}} }, 6 <= n && n <= maxIndex+1},
			{"Match", func(r *api.Raft) { r.Progress = []api.Progress{{Id: 4, Next: 6, Match: n}} }, 0 <= n && n <= 5},
			{"Match of the greatest Next", func(r *api.Raft) { r.Progress = []api.Progress{{Id: 4, Next: maxIndex + 1, Match: n}} }, 0 <= n && n <= maxIndex},
			{"Age", func(r *api.Raft) { r.Age = int(n) }, n >= 0},
			{"Draw", func(r *api.Raft) { r.Draw = int(n) }, 6 <= n && n <= 40},
			{"Base", func(r *api.Raft) { r.Roll, r.Commit = logOf(n, 4), n }, 0 <= n && n <= maxIndex},
			{"BaseTerm", func(r *api.Raft) { r.Roll, r.Commit = logOf(3, n), 3 }, 0 <= n && n <= 5},
			{"a Term of the log", func(r *api.Raft) { r.Roll, r.Commit = logOf(3, 2, n, n), 5 }, 2 <= n && n <= 5},
		} {
			want := api.OK
			if !c.ok {
				want = api.ErrArg
			}
			checks(t, c.name, with(alone(), c.change), want)
		}
	}
}

func TestP13_1New(t *testing.T) {
	for _, c := range []struct{ draw, want int }{
		{0, 6}, {5, 6}, {6, 6}, {7, 7}, {23, 23}, {39, 39}, {40, 40}, {41, 40}, {1000, 40}, {-1, 6}, {-7, 6}, {math.MaxInt, 40}, {math.MinInt, 6}, {1<<32 + 8, 40},
	} {
		for _, n := range []int64{1, 2, me, maxId - 1, maxId, 0, -1, maxId + 1, math.MaxInt64, math.MinInt64} {
			got := raft.New(n, c.draw)
			if !sameRaft(got, api.Raft{Me: n, Draw: c.want}) {
				t.Errorf("New(%d, %d): %s", n, c.draw, show(got))
			}
			if n >= 1 && n <= maxId {
				checks(t, "New", got, api.OK)
			} else {
				checks(t, "New", got, api.ErrArg)
			}
		}
	}
}

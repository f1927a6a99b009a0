package raft_test

import (
	"math"
	"slices"
	"testing"

	"furlong/api"
	"furlong/raft"
)

// at is r with this Progress.
func at(r api.Raft, l ...api.Progress) api.Raft {
	return with(r, func(r *api.Raft) { r.Progress = l })
}

// tellings are what r, which leads, tells each of Progress.
func tellings(r api.Raft) []api.Wire {
	var l []api.Wire
	for _, p := range r.Progress {
		l = append(l, telling(r, p.Id))
	}
	return l
}

// telling is what r, which leads, tells one of Progress.
func telling(r api.Raft, id int64) api.Wire {
	for _, p := range r.Progress {
		if p.Id != id {
			continue
		}
		if p.Next <= r.Roll.Base {
			return said(api.RaSnap, id, r.Term)
		}
		m := but(said(api.RaAppend, id, r.Term), func(m *api.Wire) { m.Index, m.Commit = p.Next-1, r.Commit })
		if n := p.Next - r.Roll.Base - 1; n <= int64(len(r.Roll.Entries)) {
			m.LogTerm = logTermOf(r, m.Index)
			m.Entries = r.Roll.Entries[n:min(n+8, int64(len(r.Roll.Entries)))]
		}
		return m
	}
	return api.Wire{}
}

// ok is what id says, who has come to an index, to him who leads in the Term 4.
func ok(id, index int64) api.Wire {
	return but(wire(api.RaAppendOk, id, 4), func(m *api.Wire) { m.Index = index })
}

// notOk is what id says, who has not what stands ahead.
func notOk(id, index, hint int64) api.Wire {
	return but(no(ok(id, index)), func(m *api.Wire) { m.Hint = hint })
}

// long is a leader with the entries 4 to 28.
func long() api.Raft {
	terms := []int64{1, 2, 2, 4, 4}
	for range 20 {
		terms = append(terms, 4)
	}
	return log(leader(), terms...)
}

func TestP13_2TellGoesByNext(t *testing.T) {
	r := long()
	for next := int64(1); next < 34; next++ {
		r := at(r, api.Progress{Id: 1, Next: next}, api.Progress{Id: 6, Next: 29})
		one := said(api.RaSnap, 1, 4)
		if next > 3 {
			one = but(said(api.RaAppend, 1, 4), func(m *api.Wire) { m.Index, m.Commit = next-1, 6 })
		}
		if next > 3 && next <= 29 {
			one.LogTerm = logTermOf(r, next-1)
			one.Entries = r.Roll.Entries[next-4 : min(next+4, 25)]
		}
		six := but(said(api.RaAppend, 6, 4), func(m *api.Wire) { m.Index, m.LogTerm, m.Commit = 28, 4, 6 })
		tells(t, "it leads", r, three(), r, one, six)
		ticks(t, "it leads", older(r, 1), three(), 9, r, one, six)
	}
	far := at(r, api.Progress{Id: 1, Next: maxIndex + 1}, api.Progress{Id: 6, Next: 29})
	tells(t, "far behind the last entry", far, three(), far, but(said(api.RaAppend, 1, 4), func(m *api.Wire) { m.Index, m.Commit = maxIndex, 6 }), telling(far, 6))
	base := with(leader(), func(r *api.Raft) { r.Roll, r.Commit = logOf(8, 4), 8 })
	tells(t, "a base alone", base, three(), base, said(api.RaSnap, 1, 4), but(said(api.RaAppend, 6, 4), func(m *api.Wire) { m.Index, m.LogTerm, m.Commit = 8, 4, 8 }))
}

func TestP13_2TellOfAtMostABatch(t *testing.T) {
	for n := range 20 {
		r := at(long(), api.Progress{Id: 1, Next: int64(29 - n), Match: 1}, api.Progress{Id: 6, Next: 29})
		_, l := raft.Tell(r, three())
		if len(l) != 2 || len(l[0].Entries) != min(n, 8) || len(l[1].Entries) != 0 {
			t.Errorf("%d are to come: %s", n, show(l))
		}
	}
}

// All are told: first come those who were not there, with a Next behind all.
func TestP13_2TellAllTakesMembersInAndOut(t *testing.T) {
	two := leader().Progress
	for _, c := range []struct {
		name string
		d    api.Desc
		want []api.Progress
	}{
		{"the same", three(), two},
		{"one more at the end", group(1, me, 6, 8), append(slices.Clone(two), api.Progress{Id: 8, Next: 9})},
		{"one more in between", group(1, me, 4, 6), []api.Progress{two[0], {Id: 4, Next: 9}, two[1]}},
		{"one more ahead of it", group(1, 2, me, 6), []api.Progress{two[0], {Id: 2, Next: 9}, two[1]}},
		{"two more", group(1, 2, me, 6, 9), []api.Progress{two[0], {Id: 2, Next: 9}, two[1], {Id: 9, Next: 9}}},
		{"the first one is gone", group(me, 6), two[1:]},
		{"the last one is gone", group(1, me), two[:1]},
		{"one is gone, one has come", group(1, me, 7), []api.Progress{two[0], {Id: 7, Next: 9}}},
		{"the first one is gone, one has come ahead", group(2, me, 6), []api.Progress{{Id: 2, Next: 9}, two[1]}},
		{"all others", group(2, me, 5, 7, 8), []api.Progress{{Id: 2, Next: 9}, {Id: 5, Next: 9}, {Id: 7, Next: 9}, {Id: 8, Next: 9}}},
		{"it is gone", group(1, 6), two},
		{"it is gone, one has come", group(1, 4, 6), []api.Progress{two[0], {Id: 4, Next: 9}, two[1]}},
		{"alone", group(me), nil},
		{"nobody", api.Desc{}, nil},
	} {
		r := at(leader(), c.want...)
		if c.name != "alone" {
			tells(t, c.name, leader(), c.d, r, tellings(r)...)
		}
		ticks(t, c.name, older(leader(), 1), c.d, 9, r, tellings(r)...)
	}
	none := at(leader())
	all := at(leader(), api.Progress{Id: 1, Next: 9}, api.Progress{Id: 6, Next: 9})
	tells(t, "nobody is there so far", none, three(), all, tellings(all)...)
	// Nobody has asked who it is itself; if it is there, it is told as others are.
	self := at(leader(), api.Progress{Id: 1, Next: 7, Match: 6}, api.Progress{Id: me, Next: 5, Match: 2}, api.Progress{Id: 6, Next: 9, Match: 4})
	tells(t, "itself is there", self, three(), self, tellings(self)...)
	gone := at(leader(), api.Progress{Id: 1, Next: 7, Match: 6}, api.Progress{Id: 6, Next: 9, Match: 4})
	tells(t, "itself was there", self, group(1, 6), gone, tellings(gone)...)
}

// agreed is r with these Matches of the others, and a Next behind all.
func agreed(r api.Raft, l ...api.Progress) api.Raft {
	for i := range l {
		l[i].Next = 9
	}
	return at(r, l...)
}

func TestP13_2Agree(t *testing.T) {
	five := group(1, 2, me, 4, 6)
	for _, c := range []struct {
		d       api.Desc
		matches []int64
		want    int64
	}{
		{three(), []int64{0, 0}, 6}, {three(), []int64{6, 6}, 6}, {three(), []int64{6, 7}, 7}, {three(), []int64{7, 0}, 7}, {three(), []int64{7, 8}, 8}, {three(), []int64{8, 8}, 8}, {three(), []int64{0, 8}, 8},
		{five, []int64{8, 0, 0, 0}, 6}, {five, []int64{8, 7, 0, 0}, 7}, {five, []int64{8, 0, 7, 8}, 8}, {five, []int64{6, 6, 7, 7}, 7}, {five, []int64{6, 6, 8, 7}, 7}, {five, []int64{8, 8, 8, 8}, 8},
		// Of four more than two are needed, of two both.
		{group(1, 2, me, 4), []int64{8, 6, 6}, 6}, {group(1, 2, me, 4), []int64{8, 7, 6}, 7}, {group(1, 2, me, 4), []int64{0, 8, 8}, 8},
		{group(me, 6), []int64{6}, 6}, {group(me, 6), []int64{7}, 7}, {group(me, 6), []int64{8}, 8}, {group(me), nil, 8},
		// Who is no member does not count, nor does it itself.
		{group(1, 2, 4, 6), []int64{8, 8, 6, 6}, 6}, {group(1, 2, 4, 6), []int64{8, 8, 7, 6}, 7}, {group(1, 6), []int64{8, 7}, 7}, {group(6), []int64{7}, 7}, {group(), nil, 6},
	} {
		var l []api.Progress
		for _, m := range c.d.Members {
			if m.Id != me {
				l = append(l, api.Progress{Id: m.Id, Match: c.matches[len(l)]})
			}
		}
		r := agreed(leader(), l...)
		out := tellings(r)
		if c.want > 6 {
			// All are told once more, as more stands for good.
			out = append(out, tellings(commit(r, c.want))...)
		}
		tells(t, "agreed", r, c.d, commit(r, c.want), out...)
	}
}

func TestP13_2AgreeOnlyOnItsOwnTerm(t *testing.T) {
	all := []api.Progress{{Id: 1, Match: 8}, {Id: 6, Match: 8}}
	r := agreed(commit(with(leader(), func(r *api.Raft) { r.Term = 5 }), 3), all...)
	tells(t, "an earlier term", r, three(), r, tellings(r)...)
	r = log(r, 1, 2, 2, 4, 5)
	tells(t, "its own term", r, three(), commit(r, 8), append(tellings(r), tellings(commit(r, 8))...)...)
	r = agreed(r, api.Progress{Id: 1, Match: 7}, api.Progress{Id: 6, Match: 7})
	tells(t, "one short of its own term", r, three(), r, tellings(r)...)
	none := api.Raft{Me: me, Role: api.RoleLeader, Lead: me, Draw: 6}
	tells(t, "no Term, nor an entry", none, group(me), none)
	zero := with(none, func(r *api.Raft) { r.Roll = logOf(0, 0, 0, 0) })
	tells(t, "no Term, but entries", zero, group(me), commit(zero, 2))
}

// A Match may tell of more than there is: that is no entry of its own Term.
func TestP13_2AgreeOnNothingThatIsNotThere(t *testing.T) {
	for _, term := range []int64{0, 4} {
		for _, n := range []int64{9, 10, maxIndex} {
			r := at(leader(), api.Progress{Id: 1, Next: n + 1, Match: n}, api.Progress{Id: 6, Next: n + 1, Match: n})
			if term == 0 {
				r.Term, r.Roll, r.Commit = 0, logOf(3, 0, 0, 0), 3
			}
			_, l := raft.Tell(r, three())
			tells(t, "behind the last entry", r, three(), r, l...)
			if len(l) != 2 {
				t.Error(show(l))
			}
		}
	}
}

func TestP13_4AppendOkOfAGreaterTerm(t *testing.T) {
	for _, r := range four() {
		for _, m := range []api.Wire{ok(1, 8), notOk(1, 6, 3), ok(2, 99), notOk(9, -1, -1), ok(6, math.MinInt64), notOk(maxId, math.MaxInt64, math.MaxInt64)} {
			for _, term := range []int64{r.Term + 1, r.Term + 5, maxTerm} {
				m.Term = term
				steps(t, "a greater Term", r, three(), m, followed(r, term, 0))
			}
		}
	}
}

func TestP13_4AppendOkOfNoUse(t *testing.T) {
	r := leader()
	for term := int64(1); term < 4; term++ {
		for _, m := range []api.Wire{ok(1, 8), ok(6, 8), notOk(1, 6, 3), notOk(6, 8, 3)} {
			m.Term = term
			nothing(t, "a lesser Term", r, three(), m)
		}
	}
	for _, id := range []int64{2, 4, 7, maxId} {
		nothing(t, "not in Progress", r, three(), ok(id, 8))
		nothing(t, "not in Progress, with Reject", r, three(), notOk(id, 8, 3))
		nothing(t, "not in Progress, but a member", r, group(1, 2, me, 4, 7), ok(id, 8))
		nothing(t, "not in Progress, with Reject, but a member", r, group(1, 2, me, 4, 7), notOk(id, 8, 3))
	}
	for _, index := range []int64{9, 10, maxIndex, maxIndex + 1, math.MaxInt64} {
		nothing(t, "behind the last index", r, three(), ok(1, index))
		nothing(t, "behind the last index, with Reject", r, three(), notOk(1, index, 3))
		ahead := at(r, api.Progress{Id: 1, Next: min(index, maxIndex) + 1, Match: 2}, api.Progress{Id: 6, Next: 9})
		nothing(t, "behind the last index, and just ahead of Next, with Reject", ahead, three(), notOk(1, index, 3))
	}
	for _, r := range []api.Raft{follower(), alone(), asking(), standing()} {
		r.Progress, r.Term = leader().Progress, 4
		for _, m := range []api.Wire{ok(1, 8), ok(6, 8), notOk(1, 6, 3), notOk(6, 8, 3)} {
			nothing(t, "of no leader", r, three(), m)
		}
	}
}

// rejected is r as it knows that the next one for id is an earlier one, and what
// it tells him.
func rejected(r api.Raft, id, next int64) (api.Raft, api.Wire) {
	r = with(r, func(r *api.Raft) {
		for i := range r.Progress {
			if r.Progress[i].Id == id {
				r.Progress[i].Next = next
			}
		}
	})
	return r, telling(r, id)
}

func TestP13_4AppendOkWithReject(t *testing.T) {
	for _, c := range []struct{ next, match, hint, want int64 }{
		// A Hint that goes far back, and one that does not.
		{9, 0, 7, 8}, {9, 0, 6, 7}, {9, 0, 3, 4}, {9, 0, 2, 3}, {9, 0, 1, 2}, {9, 0, 0, 1}, {9, 0, -1, 1}, {9, 0, -2, 1}, {9, 0, math.MinInt64, 1},
		{9, 0, 8, 8}, {9, 0, 9, 8}, {9, 0, maxIndex, 8}, {9, 0, math.MaxInt64 - 1, 8}, {9, 0, math.MaxInt64, 8},
		// Never below what is known to be there.
		{9, 4, 7, 8}, {9, 4, 5, 6}, {9, 4, 4, 5}, {9, 4, 3, 5}, {9, 4, 0, 5}, {9, 4, -1, 5}, {9, 7, 7, 8}, {9, 7, 6, 8}, {9, 7, 99, 8}, {9, 8, 7, 9}, {9, 8, 99, 9}, {9, 8, 0, 9},
		{5, 0, 3, 4}, {5, 0, 4, 4}, {5, 4, 3, 5}, {4, 0, 3, 3}, {4, 0, 0, 1}, {2, 0, 0, 1}, {2, 0, 1, 1}, {2, 0, 9, 1}, {2, 1, 0, 2}, {1, 0, 0, 1}, {1, 0, 5, 1}, {1, 0, -1, 1}, {1, 0, math.MaxInt64, 1},
	} {
		for _, id := range []int64{1, 6} {
			r := at(leader(), api.Progress{Id: 1, Next: c.next, Match: c.match}, api.Progress{Id: 6, Next: c.next, Match: c.match})
			want, m := rejected(r, id, c.want)
			steps(t, "told again", r, three(), notOk(id, c.next-1, c.hint), want, m)
			// Also who is no member any more, as long as he is there.
			steps(t, "told again, in another group", r, group(me), notOk(id, c.next-1, c.hint), want, m)
			for _, index := range []int64{c.next - 3, c.next - 2, c.next, c.next + 1, -1, math.MinInt64} {
				nothing(t, "not to what was said last", r, three(), notOk(id, index, c.hint))
			}
		}
	}
	far := at(leader(), api.Progress{Id: 1, Next: 9, Match: 5}, api.Progress{Id: 6, Next: 9, Match: 8})
	want, m := rejected(far, 1, 6)
	steps(t, "it agrees upon nothing", far, three(), notOk(1, 8, 4), want, m)
}

// progressed is r as it knows id to have come to an index, with what is next.
func progressed(r api.Raft, id, match, next int64) api.Raft {
	return with(r, func(r *api.Raft) {
		for i := range r.Progress {
			if r.Progress[i].Id == id {
				r.Progress[i].Match, r.Progress[i].Next = match, next
			}
		}
	})
}

func TestP13_4AppendOkWithoutReject(t *testing.T) {
	five := group(1, 2, me, 4, 6)
	r := at(leader(), api.Progress{Id: 1, Next: 7, Match: 6}, api.Progress{Id: 2, Next: 9, Match: 5}, api.Progress{Id: 4, Next: 2}, api.Progress{Id: 6, Next: 9, Match: 8})
	r = commit(r, 6)
	for _, c := range []struct{ id, index, match, next int64 }{
		// Up to where it was known already, or less far.
		{1, 6, 6, 7}, {1, 5, 6, 7}, {1, 0, 6, 7}, {1, -1, 6, 7}, {1, math.MinInt64, 6, 7}, {4, 0, 0, 2}, {4, -9, 0, 2},
		// Further, also than was the next one.
		{2, 6, 6, 9}, {4, 1, 1, 2}, {4, 2, 2, 3}, {4, 3, 3, 4}, {4, 4, 4, 5}, {4, 6, 6, 7}, {2, 5, 5, 9}, {6, 8, 8, 9}, {6, 3, 8, 9},
	} {
		want := progressed(r, c.id, c.match, c.next)
		if c.next <= 8 {
			steps(t, "more is to come", r, five, ok(c.id, c.index), want, telling(want, c.id))
		} else {
			steps(t, "no more is to come", r, five, ok(c.id, c.index), want)
		}
	}
	for _, c := range []struct{ id, index, match, next, commit int64 }{
		{1, 7, 7, 8, 7}, {1, 8, 8, 9, 8}, {2, 7, 7, 9, 7}, {2, 8, 8, 9, 8}, {4, 7, 7, 8, 7}, {4, 8, 8, 9, 8},
	} {
		want := commit(progressed(r, c.id, c.match, c.next), c.commit)
		steps(t, "it agrees", r, five, ok(c.id, c.index), want, tellings(want)...)
	}
}

// It agrees also where nothing new was said, as members may have gone since.
func TestP13_4AppendOkWhenMembersHaveGone(t *testing.T) {
	r := at(leader(), api.Progress{Id: 1, Next: 8, Match: 7}, api.Progress{Id: 4, Next: 5, Match: 4}, api.Progress{Id: 6, Next: 5, Match: 4})
	want := commit(at(r, r.Progress[:1]...), 7)
	steps(t, "two are gone", r, group(1, me), ok(1, 7), want, tellings(want)...)
	steps(t, "two are gone, says one of them", r, group(1, me), ok(4, 4), want, tellings(want)...)
	nothing := r
	steps(t, "one is gone", r, group(1, me, 6, 9), ok(6, 4), nothing, telling(nothing, 6))
	// Who is gone is told, as long as nothing is agreed upon.
	steps(t, "the others are gone", r, group(me, 8), ok(1, 7), r, telling(r, 1))
	// Who has come is told as soon as something is.
	want = commit(at(r, api.Progress{Id: 1, Next: 9, Match: 8}, api.Progress{Id: 2, Next: 9}), 8)
	steps(t, "one has come", r, group(1, 2, me), ok(1, 8), want, tellings(want)...)
}

func TestP13_4AppendOkGoesByItsFields(t *testing.T) {
	want := commit(progressed(leader(), 1, 7, 8), 7)
	m := but(ok(1, 7), func(m *api.Wire) { m.LogTerm, m.Commit, m.Hint, m.Entries, m.Text = 9, 8, 2, written(8, 4), "x" })
	steps(t, "with more", leader(), three(), m, want, tellings(want)...)
}

func TestP13_5Propose(t *testing.T) {
	for _, text := range []string{"", "x", empty, "\x00\xff", "a longer text, of many bytes"} {
		want := with(leader(), func(r *api.Raft) { r.Roll.Entries = append(r.Roll.Entries, api.Entry{Term: 4, Text: text}) })
		for age := range 3 {
			proposes(t, "a leader", older(leader(), age), three(), text, true, older(want, age), tellings(want)...)
		}
		proposes(t, "alone", leader(), group(me), text, true, commit(at(want), 9))
		later := with(want, func(r *api.Raft) { r.Term, r.Roll.Entries[5].Term = 6, 6 })
		proposes(t, "a later Term", with(leader(), func(r *api.Raft) { r.Term = 6 }), three(), text, true, later, tellings(later)...)
		more := at(want, leader().Progress[0], leader().Progress[1], api.Progress{Id: 8, Next: 10})
		proposes(t, "one more", leader(), group(1, me, 6, 8), text, true, more, tellings(more)...)
		for _, r := range []api.Raft{follower(), alone(), asking(), standing()} {
			proposes(t, "another one", r, three(), text, false, r)
			proposes(t, "another one, alone", r, group(me), text, false, r)
		}
	}
}

// It agrees behind what it says: what others have reached may be enough.
func TestP13_5ProposeAgrees(t *testing.T) {
	r := at(leader(), api.Progress{Id: 1, Next: 9, Match: 8}, api.Progress{Id: 6, Next: 9, Match: 4})
	more := with(r, func(r *api.Raft) { r.Roll.Entries = append(r.Roll.Entries, api.Entry{Term: 4, Text: "x"}) })
	proposes(t, "one has all", r, three(), "x", true, commit(more, 8), append(tellings(more), tellings(commit(more, 8))...)...)
}

func TestP13_5ProposeUpToTheGreatestIndex(t *testing.T) {
	full := with(leader(), func(r *api.Raft) { r.Roll, r.Commit, r.Progress = logOf(maxIndex-1, 4, 4), maxIndex, nil })
	proposes(t, "full", full, group(me), "x", false, full)
	proposes(t, "full, of three", full, three(), "x", false, full)
	base := with(full, func(r *api.Raft) { r.Roll = logOf(maxIndex, 4) })
	proposes(t, "a base alone", base, group(me), "x", false, base)
	almost := with(full, func(r *api.Raft) { r.Roll, r.Commit = logOf(maxIndex-1, 4), maxIndex-1 })
	want := with(full, func(r *api.Raft) { r.Roll.Entries[0].Text = "x" })
	proposes(t, "one is left", almost, group(me), "x", true, want)
	checks(t, "one is left", want, api.OK)
}

func TestP13_6Tell(t *testing.T) {
	for _, r := range []api.Raft{follower(), alone(), asking(), standing()} {
		for _, d := range groups() {
			tells(t, "another one", r, d, r)
			r.Progress = leader().Progress
			tells(t, "another one, who knows others", r, d, r)
		}
	}
	for age := range 4 {
		r := older(leader(), age)
		tells(t, "a leader", r, three(), r, tellings(r)...)
	}
}

// Members come and go while one leads: what stands for good is what those have
// who are there.
func TestP13_6MembersComeAndGo(t *testing.T) {
	r := at(leader(), api.Progress{Id: 1, Next: 9, Match: 6}, api.Progress{Id: 6, Next: 9, Match: 6})
	r, l := raft.Tell(r, group(1, me, 6, 8))
	if len(l) != 3 || l[2].To != 8 || l[2].Index != 8 || len(l[2].Entries) != 0 {
		t.Fatal(show(l))
	}
	// Of four, three are to have it.
	r, l = raft.Step(r, group(1, me, 6, 8), ok(6, 8))
	if r.Commit != 6 || len(l) != 0 {
		t.Fatal(show(r), show(l))
	}
	// Who has come has nothing of what is ahead.
	r, l = raft.Step(r, group(1, me, 6, 8), notOk(8, 8, 0))
	if len(l) != 1 || l[0].Kind != api.RaSnap || l[0].To != 8 || r.Progress[2].Next != 1 {
		t.Fatal(show(r), show(l))
	}
	r, l = raft.Step(r, group(1, me, 6, 8), ok(8, 6))
	if r.Commit != 6 || len(l) != 1 || l[0].Index != 6 || len(l[0].Entries) != 2 {
		t.Fatal(show(r), show(l))
	}
	// Without the first one two of three are enough.
	r, l = raft.Tell(r, group(me, 6, 8))
	if r.Commit != 8 || len(r.Progress) != 2 || len(l) != 4 || l[3].Commit != 8 {
		t.Fatal(show(r), show(l))
	}
	r, l = raft.Step(r, group(me, 6, 8), ok(1, 8))
	if len(l) != 0 || len(r.Progress) != 2 {
		t.Fatal(show(r), show(l))
	}
	// It is gone itself: it leads on, as long as nobody else does.
	r, _, is := raft.Propose(r, group(6, 8), "x")
	if !is || r.Commit != 8 {
		t.Fatal(show(r))
	}
	r, _ = raft.Step(r, group(6, 8), ok(6, 9))
	if r.Commit != 8 {
		t.Fatal(show(r))
	}
	r, _ = raft.Step(r, group(6, 8), ok(8, 9))
	if r.Commit != 9 || r.Role != api.RoleLeader {
		t.Fatal(show(r))
	}
}

package raft_test

import (
	"math"
	"testing"

	"furlong/api"
)

// behind is a message of 1, who leads in the Term 5, with entries of these Terms
// that stand behind an index of that term.
func behind(index, logTerm int64, terms ...int64) api.Wire {
	return but(wire(api.RaAppend, 1, 5), func(m *api.Wire) {
		m.Index, m.LogTerm, m.Entries = index, logTerm, written(index+1, terms...)
	})
}

// came is what a replica says that has a leader's entries up to an index.
func came(index int64) api.Wire {
	return but(said(api.RaAppendOk, 1, 5), func(m *api.Wire) { m.Index = index })
}

// cameNot is what one says that has not that term at the index.
func cameNot(index, hint int64) api.Wire {
	return but(no(said(api.RaAppendOk, 1, 5)), func(m *api.Wire) { m.Index, m.Hint = index, hint })
}

// heard is follower as it follows 1 in its Term.
func heard() api.Raft {
	return followed(follower(), 5, 1)
}

// log is r with entries of these Terms behind its base.
func log(r api.Raft, terms ...int64) api.Raft {
	return with(r, func(r *api.Raft) { r.Roll = logOf(r.Roll.Base, r.Roll.BaseTerm, terms...) })
}

// commit is r with this Commit.
func commit(r api.Raft, n int64) api.Raft {
	r.Commit = n
	return r
}

func TestP13_4LeaderOfALesserTerm(t *testing.T) {
	for _, r := range four() {
		for _, kind := range []int{api.RaAppend, api.RaSnap} {
			for term := int64(1); term < r.Term; term++ {
				for _, index := range []int64{0, 3, 8, 9, maxIndex, -1, math.MaxInt64, math.MinInt64} {
					m := but(behind(8, 4, 5), func(m *api.Wire) { m.Kind, m.Term, m.Index, m.Commit = kind, term, index, 99 })
					refuses := but(no(said(api.RaAppendOk, 1, r.Term)), func(m *api.Wire) { m.Index, m.Hint = index, 8 })
					steps(t, "a lesser Term", r, three(), m, r, refuses)
				}
			}
		}
	}
	base := with(follower(), func(r *api.Raft) { r.Roll, r.Commit = logOf(7, 4), 7 })
	m := but(behind(8, 4), func(m *api.Wire) { m.Term = 3 })
	steps(t, "a base alone", base, three(), m, base, cameNot(8, 7))
}

func TestP13_4LeaderIsFollowed(t *testing.T) {
	for _, r := range four() {
		for _, from := range []int64{1, 2, 6, 9, maxId} {
			for _, term := range []int64{5, 6, 7, maxTerm} {
				m := but(behind(8, 4), func(m *api.Wire) { m.Term, m.From = term, from })
				ok := but(said(api.RaAppendOk, from, term), func(m *api.Wire) { m.Index = 8 })
				steps(t, "followed", r, three(), m, followed(r, term, from), ok)
				m = but(m, func(m *api.Wire) { m.Kind, m.Index = api.RaSnap, r.Commit })
				ok.Index = r.Commit
				steps(t, "followed, with a RaSnap", r, three(), m, followed(r, term, from), ok)
			}
		}
	}
	// In its own Term a replica keeps its Vote.
	for _, vote := range []int64{0, 1, me, 6} {
		r := with(follower(), func(r *api.Raft) { r.Vote, r.Lead = vote, 0 })
		steps(t, "its Term", r, three(), behind(8, 4), followed(r, 5, 1), came(8))
		r = with(standing(), func(r *api.Raft) { r.Vote = vote })
		steps(t, "its Term, as it stands", r, three(), behind(8, 4), followed(r, 5, 1), came(8))
	}
}

func TestP13_4LeaderHearsNoOtherOneInItsTerm(t *testing.T) {
	for _, kind := range []int{api.RaAppend, api.RaSnap} {
		for _, index := range []int64{0, 3, 7, 8, 9, 99, -1, maxIndex + 1} {
			for _, from := range []int64{1, 2, 6, 9} {
				m := but(behind(8, 4, 4), func(m *api.Wire) { m.Kind, m.Term, m.From, m.Index, m.Commit = kind, 4, from, index, 8 })
				nothing(t, "another leader", leader(), three(), m)
			}
		}
	}
}

func TestP13_4AppendBehindTheLastEntry(t *testing.T) {
	steps(t, "none", follower(), three(), behind(8, 4), heard(), came(8))
	steps(t, "one", follower(), three(), behind(8, 4, 4), log(heard(), 1, 2, 2, 4, 4, 4), came(9))
	steps(t, "one of its Term", follower(), three(), behind(8, 4, 5), log(heard(), 1, 2, 2, 4, 4, 5), came(9))
	steps(t, "three", follower(), three(), behind(8, 4, 4, 4, 5), log(heard(), 1, 2, 2, 4, 4, 4, 4, 5), came(11))
	many := []int64{4, 4, 4, 4, 5, 5, 5, 5, 5, 5, 5, 5}
	steps(t, "more than the batch", follower(), three(), behind(8, 4, many...), log(heard(), append([]int64{1, 2, 2, 4, 4}, many...)...), came(20))
	none := api.Raft{Me: me, Term: 5, Draw: 10}
	steps(t, "the first ones", none, three(), behind(0, 0, 1, 3), log(followed(none, 5, 1), 1, 3), came(2))
	steps(t, "no first ones", none, three(), behind(0, 0), followed(none, 5, 1), came(0))
	base := with(follower(), func(r *api.Raft) { r.Roll, r.Commit = logOf(7, 4), 7 })
	steps(t, "behind a base alone", base, three(), behind(7, 4, 4, 5), log(followed(base, 5, 1), 4, 5), came(9))
	steps(t, "behind a base alone, none", base, three(), behind(7, 4), followed(base, 5, 1), came(7))
}

func TestP13_4AppendWhatIsThere(t *testing.T) {
	terms := []int64{1, 1, 2, 2, 4, 4}
	for from := range len(terms) {
		for to := from; to < len(terms); to++ {
			index := int64(from + 3)
			m := behind(index, terms[from], terms[from+1:to+1]...)
			steps(t, "there already", follower(), three(), m, heard(), came(int64(to+3)))
			m.Entries = append(m.Entries, api.Entry{Term: 5, Text: "new"})
			want := with(log(heard(), terms[1:to+1]...), func(r *api.Raft) { r.Roll.Entries = append(r.Roll.Entries, m.Entries[to-from]) })
			if to+4 <= 5 {
				steps(t, "one in the place of one that stands", follower(), three(), m, heard())
			} else {
				steps(t, "one more", follower(), three(), m, want, came(int64(to+4)))
			}
		}
	}
	// What has the same index and the same Term is the same, and so it stays.
	m := but(behind(6, 2, 4, 4), func(m *api.Wire) { m.Entries[0].Text, m.Entries[1].Text = "x", "y" })
	steps(t, "another Text", follower(), three(), m, heard(), came(8))
}

func TestP13_4AppendInThePlaceOfOthers(t *testing.T) {
	steps(t, "the last one", follower(), three(), behind(7, 4, 5), log(heard(), 1, 2, 2, 4, 5), came(8))
	steps(t, "the last two", follower(), three(), behind(6, 2, 5), log(heard(), 1, 2, 2, 5), came(7))
	steps(t, "the last two, by three", follower(), three(), behind(6, 2, 3, 3, 5), log(heard(), 1, 2, 2, 3, 3, 5), came(9))
	steps(t, "one behind Commit", follower(), three(), behind(5, 2, 3), log(heard(), 1, 2, 3), came(6))
	steps(t, "behind some that are there", follower(), three(), behind(3, 1, 1, 2, 2, 5), log(heard(), 1, 2, 2, 5), came(7))
}

func TestP13_4AppendInThePlaceOfWhatStands(t *testing.T) {
	// It hears of a leader, all the same.
	steps(t, "the last one that stands", follower(), three(), behind(4, 1, 3), heard())
	steps(t, "the first one", follower(), three(), behind(3, 1, 3), heard())
	steps(t, "both", follower(), three(), behind(3, 1, 2, 3), heard())
	steps(t, "and what is behind it", follower(), three(), behind(4, 1, 4, 4, 4, 4, 5), heard())
	steps(t, "behind one that is there", follower(), three(), behind(3, 1, 1, 5), heard())
	steps(t, "with a Commit", follower(), three(), but(behind(4, 1, 3), func(m *api.Wire) { m.Commit = 8 }), heard())
	all := commit(follower(), 8)
	steps(t, "all of it stands", all, three(), behind(7, 4, 5), commit(heard(), 8))
	steps(t, "all of it stands, one behind it", all, three(), behind(8, 4, 5), commit(log(heard(), 1, 2, 2, 4, 4, 5), 8), came(9))
	none := commit(follower(), 3)
	steps(t, "nothing of it stands", none, three(), behind(3, 1, 3), commit(log(heard(), 3), 3), came(4))
	// Whatever stands ahead of them.
	steps(t, "behind another term", follower(), three(), behind(4, 2, 3), heard())
	steps(t, "behind another term, with a greater Term", follower(), three(), but(behind(4, 2, 3), func(m *api.Wire) { m.Term = 9 }), followed(follower(), 9, 1))
}

func TestP13_4AppendBehindWhatItHasNot(t *testing.T) {
	for _, index := range []int64{9, 10, 20, maxIndex - 1, maxIndex} {
		steps(t, "behind the last entry", follower(), three(), behind(index, 4), heard(), cameNot(index, 8))
	}
	steps(t, "one, behind the last entry", follower(), three(), behind(9, 4, 5), heard(), cameNot(9, 8))
	steps(t, "eight, behind the last entry", follower(), three(), behind(12, 4, 4, 4, 4, 4, 5, 5, 5, 5), heard(), cameNot(12, 8))
	for _, term := range []int64{0, 1, 2, 3, 5, 9, maxTerm} {
		steps(t, "another term", follower(), three(), behind(8, term), heard(), cameNot(8, 7))
	}
	steps(t, "another term, in the middle", follower(), three(), behind(6, 1), heard(), cameNot(6, 5))
	steps(t, "another term, where it stands", follower(), three(), behind(5, 1, 2), heard(), cameNot(5, 4))
	steps(t, "another term, of the base", follower(), three(), behind(3, 0), heard(), cameNot(3, 2))
	none := api.Raft{Me: me, Term: 5, Draw: 10}
	steps(t, "a term ahead of all", none, three(), behind(0, 1), followed(none, 5, 1), cameNot(0, -1))
	steps(t, "none is there", none, three(), behind(1, 1), followed(none, 5, 1), cameNot(1, 0))
	steps(t, "a Commit", follower(), three(), but(behind(9, 4), func(m *api.Wire) { m.Commit = 8 }), heard(), cameNot(9, 8))
}

func TestP13_4AppendBelowTheBase(t *testing.T) {
	steps(t, "one below", follower(), three(), behind(2, 1, 1, 1, 2, 2, 4, 4, 5), log(heard(), 1, 2, 2, 4, 4, 5), came(9))
	steps(t, "one below, two of them", follower(), three(), behind(2, 1, 1, 1), heard(), came(4))
	steps(t, "one below, one of them", follower(), three(), behind(2, 1, 1), heard(), came(3))
	steps(t, "one below, none of them", follower(), three(), behind(2, 1), heard(), came(3))
	steps(t, "from the beginning", follower(), three(), behind(0, 0, 1, 1, 1, 1, 2, 2, 4, 4), heard(), came(8))
	steps(t, "from the beginning, with others behind", follower(), three(), behind(0, 0, 1, 1, 1, 1, 2, 2, 5, 5), log(heard(), 1, 2, 2, 5, 5), came(8))
	steps(t, "too few", follower(), three(), behind(0, 0, 1, 1), heard(), came(3))
	steps(t, "just as many", follower(), three(), behind(0, 0, 1, 1, 1), heard(), came(3))
	// What is passed over, and what stands ahead of it, has no part.
	for _, term := range []int64{0, 1, 4, 5, 9, maxTerm, -1, maxTerm + 1, math.MinInt64, math.MaxInt64} {
		steps(t, "another term ahead", follower(), three(), behind(2, term, term, 1, 2), heard(), came(5))
		steps(t, "another term ahead, alone", follower(), three(), behind(1, term, term, term), heard(), came(3))
	}
	for _, index := range []int64{-1, -2, -maxIndex, math.MinInt64 + 1, math.MinInt64} {
		steps(t, "far below", follower(), three(), behind(index, 0, 1, 1), heard(), came(3))
	}
	steps(t, "far enough", follower(), three(), behind(-2, 0, 9, 9, 9, 9, 9, 1, 2, 2, 4, 4, 5), log(heard(), 1, 2, 2, 4, 4, 5), came(9))
	none := api.Raft{Me: me, Term: 5, Draw: 10}
	steps(t, "below nothing", none, three(), behind(-1, 9, 9, 5), log(followed(none, 5, 1), 5), came(1))
	steps(t, "what stands would go", follower(), three(), behind(2, 1, 1, 3), heard())
	steps(t, "it falls below the base", follower(), three(), behind(2, 1, 1, 0), heard())
	steps(t, "a Commit", commit(follower(), 3), three(), but(behind(0, 0, 1, 1), func(m *api.Wire) { m.Commit = 8 }), commit(heard(), 3), came(3))
}

func TestP13_4AppendOfWhatMayNotStandThere(t *testing.T) {
	bad := func(what string, m api.Wire) {
		t.Helper()
		steps(t, what, follower(), three(), m, heard())
		m.Term = 7
		steps(t, what, standing(), three(), m, followed(standing(), 7, 1))
	}
	bad("falling", behind(8, 4, 5, 4))
	bad("below the one ahead", behind(8, 4, 3))
	bad("below the one ahead, where it is there not", behind(20, 4, 3))
	bad("a Term below 0", behind(8, 4, -1))
	bad("a Term above all", behind(8, 4, maxTerm+1))
	bad("the last one above all", behind(8, 4, 4, maxTerm+1))
	bad("a Term above the leader's", behind(8, 4, 8))
	bad("the last Term above the leader's", behind(8, 4, 4, 5, 8))
	bad("the last Term", behind(8, 4, maxTerm))
	bad("all above the leader's", behind(20, 8, 8))
	for _, n := range []int64{-1, maxTerm + 1, math.MaxInt64, math.MinInt64} {
		bad("a term ahead", behind(8, n))
		bad("a term ahead of one", behind(8, n, 5))
		bad("both", behind(8, n, n))
	}
	for _, n := range []int64{maxIndex + 1, maxIndex + 2, math.MaxInt64} {
		bad("an index", behind(n, 4))
		bad("an index ahead of one", behind(n, 4, 5))
	}
	bad("one behind the greatest index", behind(maxIndex, 4, 4))
	bad("two behind the greatest index", behind(maxIndex-1, 4, 4, 5))
	steps(t, "the Term of the leader", follower(), three(), behind(8, 4, 5), log(heard(), 1, 2, 2, 4, 4, 5), came(9))
	steps(t, "one above it", follower(), three(), behind(8, 4, 6), heard())
	steps(t, "a term ahead above the leader's", follower(), three(), behind(8, 6), heard(), cameNot(8, 7))
}

func TestP13_4AppendUpToTheGreatestIndex(t *testing.T) {
	r := with(follower(), func(r *api.Raft) { r.Roll, r.Commit = logOf(maxIndex-1, 4), maxIndex-1 })
	steps(t, "the last one", r, three(), behind(maxIndex-1, 4, 4), log(followed(r, 5, 1), 4), came(maxIndex))
	steps(t, "none behind it", log(r, 4), three(), behind(maxIndex, 4), log(followed(r, 5, 1), 4), came(maxIndex))
	steps(t, "one too many", r, three(), behind(maxIndex-1, 4, 4, 4), followed(r, 5, 1))
	late := with(follower(), func(r *api.Raft) { r.Term = maxTerm })
	m := but(behind(8, 4, maxTerm), func(m *api.Wire) { m.Term = maxTerm })
	ok := but(came(9), func(m *api.Wire) { m.Term = maxTerm })
	steps(t, "the last Term", late, three(), m, log(followed(late, maxTerm, 1), 1, 2, 2, 4, 4, maxTerm), ok)
}

func TestP13_4AppendCommits(t *testing.T) {
	for _, c := range []struct {
		commit, index, want int64
		terms               []int64
	}{
		{0, 8, 5, nil}, {4, 8, 5, nil}, {5, 8, 5, nil}, {6, 8, 6, nil}, {7, 8, 7, nil}, {8, 8, 8, nil}, {9, 8, 8, nil}, {maxIndex, 8, 8, nil},
		{6, 5, 5, nil}, {8, 6, 6, nil}, {8, 6, 7, []int64{4}}, {99, 6, 8, []int64{4, 4}}, {8, 4, 5, []int64{2}}, {8, 3, 5, []int64{1}}, {7, 3, 5, []int64{1}},
		{9, 8, 9, []int64{5}}, {10, 8, 9, []int64{5}}, {8, 8, 8, []int64{5}}, {10, 8, 10, []int64{5, 5, 5}}, {math.MaxInt64, 8, 11, []int64{5, 5, 5}},
		{math.MaxInt64, 8, 8, nil}, {-1, 8, 5, nil}, {math.MinInt64, 8, 5, []int64{5}}, {maxIndex + 1, 7, 7, nil},
	} {
		m := but(behind(c.index, logTermOf(follower(), c.index), c.terms...), func(m *api.Wire) { m.Commit = c.commit })
		want := commit(heard(), c.want)
		if c.index+int64(len(c.terms)) > 8 {
			want = log(want, append([]int64{1, 2, 2, 4, 4}, c.terms...)...)
		}
		steps(t, "a Commit", follower(), three(), m, want, came(c.index+int64(len(c.terms))))
	}
	m := but(behind(7, 4, 5), func(m *api.Wire) { m.Commit = 8 })
	steps(t, "what has just come", follower(), three(), m, commit(log(heard(), 1, 2, 2, 4, 5), 8), came(8))
	m = but(behind(2, 9, 9, 1, 2, 2), func(m *api.Wire) { m.Commit = 99 })
	steps(t, "some of it passed over", follower(), three(), m, commit(heard(), 6), came(6))
}

// logTermOf is the term at an index of r's log.
func logTermOf(r api.Raft, i int64) int64 {
	if i == r.Roll.Base {
		return r.Roll.BaseTerm
	}
	return r.Roll.Entries[i-r.Roll.Base-1].Term
}

// snap is a message of 1, who leads in the Term 5, of a copy of what came of the
// log up to an index of that term.
func snap(index, logTerm int64) api.Wire {
	return but(wire(api.RaSnap, 1, 5), func(m *api.Wire) { m.Index, m.LogTerm, m.Text = index, logTerm, "x" })
}

func TestP13_4SnapIsTaken(t *testing.T) {
	for _, index := range []int64{6, 7, 8, 9, 10, 99, maxIndex - 1, maxIndex} {
		for _, term := range []int64{1, 2, 4, 5} {
			want := with(heard(), func(r *api.Raft) { r.Roll, r.Commit = api.Roll{Base: index, BaseTerm: term}, index })
			steps(t, "above Commit", follower(), three(), snap(index, term), want, came(index))
			steps(t, "above Commit, as it asks", asking(), three(), snap(index, term), want, came(index))
		}
	}
	none := api.Raft{Me: me, Draw: 10}
	blank := with(followed(none, 5, 1), func(r *api.Raft) { r.Roll, r.Commit = logOf(1, 1), 1 })
	steps(t, "by one who has nothing", none, three(), snap(1, 1), blank, came(1))
	m := but(snap(9, maxTerm), func(m *api.Wire) { m.Term = maxTerm })
	late := with(followed(follower(), maxTerm, 1), func(r *api.Raft) { r.Roll, r.Commit = logOf(9, maxTerm), 9 })
	steps(t, "of the last Term", follower(), three(), m, late, but(came(9), func(m *api.Wire) { m.Term = maxTerm }))
	m = but(snap(9, 5), func(m *api.Wire) { m.Term, m.From = 6, 6 })
	led := with(followed(leader(), 6, 6), func(r *api.Raft) { r.Roll, r.Commit = logOf(9, 5), 9 })
	steps(t, "by one who led", leader(), three(), m, led, but(came(9), func(m *api.Wire) { m.Term, m.To = 6, 6 }))
	// What else is told has no part.
	m = but(snap(9, 2), func(m *api.Wire) { m.Commit, m.Hint, m.Reject, m.Entries, m.Text = 99, 7, true, written(10, 2), "" })
	steps(t, "with more", follower(), three(), m, with(heard(), func(r *api.Raft) { r.Roll, r.Commit = logOf(9, 2), 9 }), came(9))
}

func TestP13_4SnapIsNotTaken(t *testing.T) {
	for _, index := range []int64{5, 4, 3, 2, 1, 0, -1, math.MinInt64, maxIndex + 1, maxIndex + 2, math.MaxInt64} {
		steps(t, "an index", follower(), three(), snap(index, 2), heard(), came(5))
		steps(t, "an index, in a greater Term", standing(), three(), but(snap(index, 2), func(m *api.Wire) { m.Term = 6 }), followed(standing(), 6, 1), but(came(5), func(m *api.Wire) { m.Term = 6 }))
	}
	for _, term := range []int64{0, -1, 6, 7, maxTerm, maxTerm + 1, math.MaxInt64, math.MinInt64} {
		steps(t, "a term", follower(), three(), snap(9, term), heard(), came(5))
		steps(t, "a term of what is there", follower(), three(), snap(7, term), heard(), came(5))
	}
	steps(t, "all that it has stands", commit(follower(), 8), three(), snap(8, 4), commit(heard(), 8), came(8))
	steps(t, "all that it has stands, one more", commit(follower(), 8), three(), snap(9, 4), with(heard(), func(r *api.Raft) { r.Roll, r.Commit = logOf(9, 4), 9 }), came(9))
	none := api.Raft{Me: me, Draw: 10}
	steps(t, "nothing, to one who has nothing", none, three(), snap(0, 1), followed(none, 5, 1), came(0))
}

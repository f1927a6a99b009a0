package roll_test

import (
	"math"
	"slices"
	"testing"

	"furlong/api"
	"furlong/roll"
)

// slicesTo holds what Slice answers against what it should, what was handed in
// against what it was.
func slicesTo(t *testing.T, r api.Roll, from int64, limit int, want []api.Entry) {
	t.Helper()
	in := roomy(r)
	got := roll.Slice(in, from, limit)
	if !slices.Equal(got, want) {
		t.Errorf("Slice(%s, %d, %d): %s, not %s", show(r), from, limit, show(got), show(want))
	}
	// It is new: what becomes of it is nothing to r.
	scribble(got)
	more(got)
	untouched(t, "Slice", in.Entries, r.Entries)
}

func TestP11_3Slice(t *testing.T) {
	all := some().Entries
	for _, c := range []struct {
		from  int64
		limit int
		want  []api.Entry
	}{
		{6, 4, all}, {6, 5, all}, {6, math.MaxInt, all}, {6, 3, all[:3]}, {6, 1, all[:1]}, {6, 0, nil}, {6, -1, nil}, {6, math.MinInt, nil},
		{7, 3, all[1:]}, {7, 4, all[1:]}, {7, 2, all[1:3]}, {7, 1, all[1:2]}, {7, 0, nil}, {8, 2, all[2:]}, {8, 1, all[2:3]}, {8, math.MaxInt, all[2:]},
		{9, 1, all[3:]}, {9, 2, all[3:]}, {9, math.MaxInt, all[3:]}, {9, 0, nil}, {9, -4, nil},
		{10, 1, nil}, {10, 5, nil}, {10, 0, nil}, {11, 1, nil}, {maxIndex, 9, nil}, {math.MaxInt64, 9, nil}, {math.MaxInt64, math.MaxInt, nil}, {1<<32 + 6, 9, nil},
		{5, 4, all}, {5, 2, all[:2]}, {4, 1, all[:1]}, {1, 9, all}, {0, 4, all}, {0, 0, nil}, {-1, 3, all[:3]}, {-1, -1, nil},
		{math.MinInt64, 9, all}, {math.MinInt64, 1, all[:1]}, {math.MinInt64, math.MaxInt, all}, {math.MinInt64 + 7, 2, all[:2]},
	} {
		slicesTo(t, some(), c.from, c.limit, c.want)
	}
}

func TestP11_3SliceOfNothing(t *testing.T) {
	for _, r := range []api.Roll{{}, of(7, 3), {Base: 7, BaseTerm: 3, Entries: []api.Entry{}}, of(maxIndex, 1)} {
		for _, from := range wild(r) {
			for _, limit := range []int{0, 1, 9, -1, math.MaxInt, math.MinInt} {
				slicesTo(t, r, from, limit, nil)
			}
		}
	}
}

func TestP11_3SliceOfAll(t *testing.T) {
	for _, c := range right() {
		for _, from := range append(wild(c.r), near(c.r)...) {
			for _, limit := range []int{math.MinInt, -1, 0, 1, 2, 3, len(c.r.Entries) - 1, len(c.r.Entries), len(c.r.Entries) + 1, math.MaxInt} {
				var want []api.Entry
				for i, e := range c.r.Entries {
					if c.r.Base+int64(i)+1 >= from && len(want) < limit {
						want = append(want, e)
					}
				}
				slicesTo(t, c.r, from, limit, want)
			}
		}
	}
}

// appends holds what Append answers against r with l behind it, what was handed
// in against what it was.
func appends(t *testing.T, r api.Roll, l []api.Entry) {
	t.Helper()
	want := api.Roll{Base: r.Base, BaseTerm: r.BaseTerm, Entries: slices.Concat(r.Entries, l)}
	in, added := roomy(r), room(l)
	for range 2 {
		got := roll.Append(in, added...)
		is(t, "Append", got, want)
		more(got.Entries)
		untouched(t, "Append to", in.Entries, r.Entries)
		untouched(t, "Append of", added, l)
	}
	got := roll.Append(in, added...)
	scribble(added)
	is(t, "Append, and what was handed in was changed", got, want)
}

func TestP11_3Append(t *testing.T) {
	for _, c := range append(right(), wrong()...) {
		for _, l := range [][]api.Entry{nil, {}, entries("n", 5), entries("n", 5, 5), entries("n", 6, 7, 8, 8), {{}}, {{Term: 9}}, {{Term: 9, Text: a(70000)}}, long(0, 100).Entries} {
			appends(t, c.r, l)
		}
	}
	is(t, "one", roll.Append(of(7, 3), api.Entry{Term: 4, Text: "x"}), api.Roll{Base: 7, BaseTerm: 3, Entries: []api.Entry{{Term: 4, Text: "x"}}})
	is(t, "none", roll.Append(some()), some())
}

// What is put behind one roll twice is two rolls.
func TestP11_3TwoAppendsAreTwoRolls(t *testing.T) {
	one := roll.Append(some(), entries("a", 5)...)
	x := roll.Append(one, entries("x", 6)...)
	y := roll.Append(one, entries("y", 7, 7)...)
	is(t, "the first", x, api.Roll{Base: 5, BaseTerm: 2, Entries: slices.Concat(some().Entries, entries("a", 5), entries("x", 6))})
	is(t, "the second", y, api.Roll{Base: 5, BaseTerm: 2, Entries: slices.Concat(some().Entries, entries("a", 5), entries("y", 7, 7))})
	is(t, "both", one, api.Roll{Base: 5, BaseTerm: 2, Entries: slices.Concat(some().Entries, entries("a", 5))})
}

// merges holds what Merge answers against what it should, what was handed in
// against what it was.
func merges(t *testing.T, r api.Roll, index, term int64, l []api.Entry, want api.Roll, there bool) {
	t.Helper()
	in, added := roomy(r), room(l)
	got, ok := roll.Merge(in, index, term, added)
	if ok != there || !equal(got, want) {
		t.Errorf("Merge(%s, %d, %d, %s): %s %t, not %s %t", show(r), index, term, show(l), show(got), ok, show(want), there)
	}
	more(got.Entries)
	untouched(t, "Merge with", in.Entries, r.Entries)
	untouched(t, "Merge of", added, l)
	scribble(added)
	if !equal(got, want) {
		t.Errorf("Merge(%s, %d, %d) keeps what was handed in", show(r), index, term)
	}
}

// stays is merges of what is told no.
func stays(t *testing.T, r api.Roll, index, term int64, l []api.Entry) {
	t.Helper()
	merges(t, r, index, term, l, r, false)
}

func TestP11_3MergeBehindWhatItHasNot(t *testing.T) {
	for _, l := range [][]api.Entry{nil, {}, entries("n", 5), entries("n", 2, 3, 5), entries("n", 9, 9, 9, 9, 9, 9)} {
		// Another term there.
		for i, n := range map[int64]int64{5: 2, 6: 2, 7: 2, 8: 3, 9: 5} {
			for _, term := range []int64{n + 1, n - 1, 0, -1, n + 1<<32, maxTerm, math.MaxInt64, math.MinInt64} {
				stays(t, some(), i, term, l)
			}
		}
		// No entry there.
		for _, i := range []int64{4, 3, 0, -1, 10, 11, maxIndex, math.MaxInt64, math.MinInt64, 1<<32 + 6, math.MinInt64 + 6} {
			for _, term := range []int64{0, 1, 2, 3, 5, 6} {
				stays(t, some(), i, term, l)
			}
		}
		stays(t, api.Roll{}, 1, 0, l)
		stays(t, api.Roll{}, 1, 1, l)
		stays(t, api.Roll{}, 0, 1, l)
		stays(t, api.Roll{}, -1, 0, l)
		stays(t, of(7, 3), 7, 2, l)
		stays(t, of(7, 3), 7, 4, l)
		stays(t, of(7, 3), 6, 3, l)
		stays(t, of(7, 3), 8, 3, l)
		stays(t, of(7, 3), 0, 0, l)
	}
}

// joined are some's entries up to the n-th, and l behind them.
func joined(n int, l []api.Entry) api.Roll {
	r := some()
	r.Entries = slices.Concat(r.Entries[:n], l)
	return r
}

func TestP11_3MergeOfWhatIsThere(t *testing.T) {
	terms := []int64{2, 2, 3, 5}
	for index := int64(5); index <= 9; index++ {
		term, _ := termAt(some(), index)
		for n := index; n <= 9; n++ {
			// Their Texts are others: what r has stays.
			merges(t, some(), index, term, entries("n", terms[index-5:n-5]...), some(), true)
		}
		merges(t, some(), index, term, []api.Entry{}, some(), true)
	}
}

func TestP11_3MergeOfSome(t *testing.T) {
	for _, c := range []struct {
		index, term int64
		terms       []int64
		stay, pass  int // how many of r's stay, and of l's are passed over
	}{
		// Behind all.
		{9, 5, []int64{5}, 4, 0}, {9, 5, []int64{5, 6, 6}, 4, 0}, {9, 5, []int64{7}, 4, 0},
		// Some are there already.
		{8, 3, []int64{5, 5}, 4, 1}, {7, 2, []int64{3, 5, 5, 6}, 4, 2}, {5, 2, []int64{2, 2, 3, 5, 5}, 4, 4}, {5, 2, []int64{2, 2, 3, 5, 9, 9, 9}, 4, 4},
		// The first one is another one.
		{8, 3, []int64{6}, 3, 0}, {8, 3, []int64{4}, 3, 0}, {7, 2, []int64{4}, 2, 0}, {6, 2, []int64{3}, 1, 0}, {5, 2, []int64{3}, 0, 0}, {5, 2, []int64{7, 7, 7, 7, 7, 7}, 0, 0},
		// One in the middle, or the last one, is another one.
		{5, 2, []int64{2, 3}, 1, 1}, {5, 2, []int64{2, 3, 3, 5}, 1, 1}, {5, 2, []int64{2, 2, 4}, 2, 2}, {5, 2, []int64{2, 2, 4, 5}, 2, 2}, {6, 2, []int64{2, 3, 6}, 3, 2},
		{7, 2, []int64{3, 6}, 3, 1}, {7, 2, []int64{3, 6, 6, 6}, 3, 1}, {6, 2, []int64{2, 4, 4, 4, 4}, 2, 1},
	} {
		l := entries("n", c.terms...)
		merges(t, some(), c.index, c.term, l, joined(c.stay, l[c.pass:]), true)
	}
}

func TestP11_3MergeBehindABase(t *testing.T) {
	l := entries("n", 3, 4)
	merges(t, of(7, 3), 7, 3, l, api.Roll{Base: 7, BaseTerm: 3, Entries: l}, true)
	merges(t, of(7, 3), 7, 3, nil, of(7, 3), true)
	merges(t, api.Roll{}, 0, 0, l, api.Roll{Entries: l}, true)
	merges(t, api.Roll{}, 0, 0, nil, api.Roll{}, true)
	merges(t, of(maxIndex-2, 3), maxIndex-2, 3, l, api.Roll{Base: maxIndex - 2, BaseTerm: 3, Entries: l}, true)
}

// model is what the chapter says of Merge: index by index.
func model(r api.Roll, index, term int64, l []api.Entry) (api.Roll, bool) {
	if n, ok := termAt(r, index); !ok || n != term {
		return r, false
	}
	for j, e := range l {
		at := index + 1 + int64(j)
		if n, ok := termAt(r, at); ok && n == e.Term {
			continue
		}
		out := api.Roll{Base: r.Base, BaseTerm: r.BaseTerm}
		for i, had := range r.Entries {
			if r.Base+1+int64(i) < at {
				out.Entries = append(out.Entries, had)
			}
		}
		out.Entries = append(out.Entries, l[j:]...)
		return out, true
	}
	return r, true
}

// lists are all lists of at most n entries whose Terms are 1 to 3.
func lists(n int) [][]api.Entry {
	all := [][]api.Entry{nil}
	for from := 0; n > 0; n-- {
		to := len(all)
		for _, l := range all[from:to] {
			for term := int64(1); term <= 3; term++ {
				all = append(all, append(slices.Clone(l), api.Entry{Term: term, Text: "n"}))
			}
		}
		from = to
	}
	return all
}

func TestP11_3MergeOfAll(t *testing.T) {
	rolls := []api.Roll{{}, of(4, 1), of(4, 1, 1), of(4, 1, 2), of(4, 1, 1, 2), of(4, 1, 1, 1, 2), of(4, 1, 2, 2, 3), of(4, 2, 2, 3, 3, 3), of(0, 0, 1, 1, 2, 3)}
	for _, r := range rolls {
		for _, l := range lists(4) {
			for _, index := range near(r) {
				for term := int64(0); term <= 4; term++ {
					want, ok := model(r, index, term, l)
					merges(t, r, index, term, l, want, ok)
				}
			}
		}
	}
}

// The chapter's own example.
func TestP11_3Example(t *testing.T) {
	l := []api.Entry{{Term: 1, Text: "n0"}, {Term: 3, Text: "n1"}}
	merges(t, of(0, 0, 1, 1, 2), 1, 1, l, api.Roll{Entries: []api.Entry{{Term: 1, Text: "r0"}, {Term: 1, Text: "r1"}, {Term: 3, Text: "n1"}}}, true)
}

// compacts holds what Compact answers against what it should, what was handed in
// against what it was.
func compacts(t *testing.T, r api.Roll, to int64, want api.Roll) {
	t.Helper()
	in := roomy(r)
	got := roll.Compact(in, to)
	is(t, "Compact of "+show(r)+" to "+show(to), got, want)
	more(got.Entries)
	untouched(t, "Compact", in.Entries, r.Entries)
}

func TestP11_4Compact(t *testing.T) {
	all := some().Entries
	for to, want := range map[int64]api.Roll{
		6: {Base: 6, BaseTerm: 2, Entries: all[1:]}, 7: {Base: 7, BaseTerm: 2, Entries: all[2:]},
		8: {Base: 8, BaseTerm: 3, Entries: all[3:]}, 9: {Base: 9, BaseTerm: 5},
	} {
		compacts(t, some(), to, want)
	}
	for _, to := range []int64{5, 4, 1, 0, -1, -6, math.MinInt64, math.MinInt64 + 6, 10, 11, 15, maxIndex, 1<<32 + 6, math.MaxInt64} {
		compacts(t, some(), to, some())
	}
	compacts(t, of(maxIndex-2, 3, 4, maxTerm), maxIndex, of(maxIndex, maxTerm))
	compacts(t, of(maxIndex-2, 3, 4, maxTerm), maxIndex+1, of(maxIndex-2, 3, 4, maxTerm))
}

func TestP11_4CompactOfNothing(t *testing.T) {
	for _, r := range []api.Roll{{}, of(7, 3), of(maxIndex, maxTerm)} {
		for _, to := range wild(r) {
			compacts(t, r, to, r)
		}
	}
}

func TestP11_4CompactOfAll(t *testing.T) {
	for _, c := range right() {
		for _, to := range append(wild(c.r), near(c.r)...) {
			want := c.r
			for i, e := range c.r.Entries {
				if c.r.Base+1+int64(i) == to {
					want = api.Roll{Base: to, BaseTerm: e.Term, Entries: c.r.Entries[i+1:]}
				}
			}
			compacts(t, c.r, to, want)
		}
	}
}

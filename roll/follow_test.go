package roll_test

import (
	"math"
	"math/rand/v2"
	"slices"
	"strconv"
	"testing"

	"furlong/api"
	"furlong/roll"
)

// behind are n entries behind index, whose Terms do not fall from term on. As in
// a group, what stands at one index with one Term is the same everywhere.
func behind(rnd *rand.Rand, index, term int64, n int) []api.Entry {
	var l []api.Entry
	for range n {
		index, term = index+1, term+max(0, rnd.Int64N(4)-1)
		l = append(l, api.Entry{Term: term, Text: strconv.FormatInt(index, 10) + "." + strconv.FormatInt(term, 10)})
	}
	return l
}

// drawn is a roll of some entries.
func drawn(rnd *rand.Rand) api.Roll {
	base, term := rnd.Int64N(9), rnd.Int64N(5)
	return api.Roll{Base: base, BaseTerm: term, Entries: behind(rnd, base, term, rnd.IntN(12))}
}

// heard is a list that may be merged behind index: what r has there, up to
// somewhere, and others.
func heard(rnd *rand.Rand, r api.Roll, index int64) []api.Entry {
	here := r.Entries[index-r.Base:]
	l := slices.Clone(here[:rnd.IntN(len(here)+1)])
	last := index + int64(len(l))
	term, _ := termAt(r, last)
	return append(l, behind(rnd, last, term, rnd.IntN(6))...)
}

func TestP11_6WhatWasMergedIsThere(t *testing.T) {
	rnd := rand.New(rand.NewPCG(11, 6))
	for range 20000 {
		r := drawn(rnd)
		index := r.Base + int64(rnd.IntN(len(r.Entries)+1))
		term, _ := termAt(r, index)
		l := heard(rnd, r, index)
		m, ok := roll.Merge(r, index, term, l)
		if !ok || roll.Check(m) != api.OK {
			t.Fatalf("Merge(%s, %d, %d, %s): %s %t", show(r), index, term, show(l), show(m), ok)
		}
		for i, e := range l {
			if n, there := roll.Term(m, index+1+int64(i)); n != e.Term || !there {
				t.Fatalf("Merge(%s, %d, %d, %s): at %d: %d %t", show(r), index, term, show(l), index+1+int64(i), n, there)
			}
		}
		if got := roll.Slice(m, index+1, len(l)); !slices.Equal(got, l) {
			t.Fatalf("Merge(%s, %d, %d, %s): %s", show(r), index, term, show(l), show(got))
		}
		upTo := int(index - r.Base)
		if m.Base != r.Base || m.BaseTerm != r.BaseTerm || !slices.Equal(m.Entries[:upTo], r.Entries[:upTo]) {
			t.Fatalf("Merge(%s, %d, %d, %s): ahead of it %s", show(r), index, term, show(l), show(m))
		}
		again, ok := roll.Merge(m, index, term, l)
		if !ok || !equal(again, m) {
			t.Fatalf("Merge(%s, %d, %d, %s) again: %s, not %s", show(r), index, term, show(l), show(again), show(m))
		}
	}
}

// What comes late, and is but a beginning of what came already, takes nothing
// away.
func TestP11_6ALateBeginningTakesNothingAway(t *testing.T) {
	rnd := rand.New(rand.NewPCG(11, 66))
	for range 5000 {
		r := drawn(rnd)
		from := rnd.IntN(len(r.Entries) + 1)
		term, _ := termAt(r, r.Base+int64(from))
		l := r.Entries[from : from+rnd.IntN(len(r.Entries)-from+1)]
		if m, ok := roll.Merge(r, r.Base+int64(from), term, l); !ok || !equal(m, r) {
			t.Fatalf("Merge(%s, %d) of %d that it has: %s %t", show(r), r.Base+int64(from), len(l), show(m), ok)
		}
	}
}

func TestP11_7CompactChangesNothingBehind(t *testing.T) {
	rnd := rand.New(rand.NewPCG(11, 7))
	for range 5000 {
		r := drawn(rnd)
		to := r.Base + rnd.Int64N(int64(len(r.Entries))+5) - 2
		c := roll.Compact(r, to)
		if roll.Check(c) != api.OK {
			t.Fatalf("Compact(%s, %d): %s", show(r), to, show(c))
		}
		i, n := roll.Last(r)
		ends(t, c, i, n)
		for at := max(to, r.Base); at <= i+2; at++ {
			want, there := roll.Term(r, at)
			says(t, c, at, want, there)
			for _, limit := range []int{0, 1, 3, 20} {
				if got, want := roll.Slice(c, at+1, limit), roll.Slice(r, at+1, limit); !slices.Equal(got, want) {
					t.Fatalf("Compact(%s, %d): from %d on %s, not %s", show(r), to, at+1, show(got), show(want))
				}
			}
			newer(t, n, at, c, at >= i)
		}
		if to > r.Base && to <= i {
			want, _ := roll.Term(r, to)
			if c.Base != to || c.BaseTerm != want || len(c.Entries) != int(i-to) {
				t.Fatalf("Compact(%s, %d): %s", show(r), to, show(c))
			}
		} else if !equal(c, r) {
			t.Fatalf("Compact(%s, %d): %s", show(r), to, show(c))
		}
		is(t, "compacted again", roll.Compact(c, to), c)
	}
}

// Whatever becomes of a log, compacted or not: behind its base there is the same.
func TestP11_7ALogThatIsCompactedNowAndThen(t *testing.T) {
	rnd := rand.New(rand.NewPCG(11, 77))
	for range 300 {
		r, all := api.Roll{}, api.Roll{}
		for range 60 {
			last, term := roll.Last(all)
			switch rnd.IntN(3) {
			case 0:
				l := behind(rnd, last, term, rnd.IntN(4))
				r, all = roll.Append(r, l...), roll.Append(all, l...)
			case 1:
				index := r.Base + rnd.Int64N(last-r.Base+1)
				term, _ := roll.Term(r, index)
				l := heard(rnd, r, index)
				var ok, also bool
				r, ok = roll.Merge(r, index, term, l)
				if all, also = roll.Merge(all, index, term, l); !ok || !also {
					t.Fatal(ok, also)
				}
			default:
				r = roll.Compact(r, r.Base+rnd.Int64N(3))
			}
			is(t, "the log", r, api.Roll{Base: r.Base, BaseTerm: r.BaseTerm, Entries: all.Entries[r.Base:]})
			if n, ok := roll.Term(all, r.Base); !ok || n != r.BaseTerm || roll.Check(r) != api.OK {
				t.Fatalf("%s, not %d", show(r), n)
			}
			parses(t, "the log", roll.Put(r), r)
		}
	}
}

// Whatever is handed in, there is an answer, and all stays as it was.
func TestP11_1RollsThatMayNotBeAreAnswered(t *testing.T) {
	rolls := append(wrong(), named{"far too much", of(math.MaxInt64-1, 1, 1, 1, 1, 1)}, named{"far too little", of(math.MinInt64, math.MinInt64, 1, 0, -1)})
	for _, c := range append(rolls, right()...) {
		in := roomy(c.r)
		roll.Check(in)
		roll.Last(in)
		for _, i := range wild(c.r) {
			roll.Term(in, i)
			more(roll.Compact(in, i).Entries)
			for _, limit := range []int{math.MinInt, -1, 0, 1, 2, 100, math.MaxInt} {
				l := roll.Slice(in, i, limit)
				more(l)
				scribble(l)
			}
			here, _ := termAt(c.r, i)
			for _, term := range []int64{0, 1, 2, c.r.BaseTerm, here, -1, math.MaxInt64, math.MinInt64} {
				roll.Newer(term, i, in)
				for _, l := range [][]api.Entry{nil, c.r.Entries, entries("n", 2, 2, 9), entries("n", -1, math.MaxInt64, math.MinInt64)} {
					added := room(l)
					m, _ := roll.Merge(in, i, term, added)
					more(m.Entries)
					more(roll.Append(m, added...).Entries)
					untouched(t, c.name, added, l)
				}
			}
		}
		more(roll.Append(in).Entries)
		untouched(t, c.name, in.Entries, c.r.Entries)
	}
}

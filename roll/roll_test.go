package roll_test

import (
	"math"
	"testing"

	"furlong/api"
	"furlong/roll"
)

func TestP11_1RollsThatMayBe(t *testing.T) {
	for _, c := range append(right(), great()...) {
		if e := roll.Check(c.r); e != api.OK {
			t.Errorf("%s: %d of %s", c.name, e, show(c.r))
		}
	}
}

func TestP11_1RollsThatMayNotBe(t *testing.T) {
	for _, c := range wrong() {
		if e := roll.Check(c.r); e != api.ErrRoll {
			t.Errorf("%s: %d of %s", c.name, e, show(c.r))
		}
	}
}

func TestP11_1TheBase(t *testing.T) {
	for n, want := range map[int64]api.Errno{
		0: api.OK, 1: api.OK, maxIndex - 1: api.OK, maxIndex: api.OK, maxIndex + 1: api.ErrRoll, -1: api.ErrRoll, math.MinInt64: api.ErrRoll, math.MaxInt64: api.ErrRoll,
	} {
		for _, r := range []api.Roll{of(n, 2), of(2, n), of(n, n)} {
			if e := roll.Check(r); e != want {
				t.Errorf("%s: %d, not %d", show(r), e, want)
			}
		}
	}
}

func TestP11_1TheLastIndex(t *testing.T) {
	for n := range 6 {
		for base := maxIndex - 6; base <= maxIndex+2; base++ {
			want := api.OK
			if base+int64(n) > maxIndex {
				want = api.ErrRoll
			}
			if e := roll.Check(api.Roll{Base: base, BaseTerm: 1, Entries: entries("r", 1, 1, 1, 1, 1, 1)[:n]}); e != want {
				t.Errorf("%d entries behind %d: %d, not %d", n, base, e, want)
			}
		}
	}
}

func TestP11_1TermsDoNotFall(t *testing.T) {
	n := []int64{math.MinInt64, -1, 0, 1, 2, 3, maxTerm - 1, maxTerm, maxTerm + 1, math.MaxInt64}
	for _, x := range n {
		for _, y := range n {
			for _, z := range n {
				want := api.ErrRoll
				if 0 <= x && x <= y && y <= z && z <= maxTerm {
					want = api.OK
				}
				if e := roll.Check(of(8, x, y, z)); e != want {
					t.Errorf("%d behind %d behind %d: %d, not %d", z, y, x, e, want)
				}
			}
		}
	}
}

func TestP11_1OneThatMayNotBeAnywhere(t *testing.T) {
	for i := range 70 {
		for _, n := range []int64{-1, 0, int64(i / 7), maxTerm + 1, math.MinInt64, math.MaxInt64} {
			r := long(100, 70)
			r.Entries[i].Term = n
			if i > 0 && n >= r.Entries[i-1].Term && n <= maxTerm {
				continue
			}
			if e := roll.Check(r); e != api.ErrRoll {
				t.Errorf("entry %d of Term %d: %d", i, n, e)
			}
		}
	}
}

// ends holds what Last says against what it should.
func ends(t *testing.T, r api.Roll, index, term int64) {
	t.Helper()
	if i, n := roll.Last(r); i != index || n != term {
		t.Errorf("Last of %s: %d %d, not %d %d", show(r), i, n, index, term)
	}
}

func TestP11_2Last(t *testing.T) {
	ends(t, api.Roll{}, 0, 0)
	ends(t, of(7, 3), 7, 3)
	ends(t, api.Roll{Base: 7, BaseTerm: 3, Entries: []api.Entry{}}, 7, 3)
	ends(t, of(0, 0, 1), 1, 1)
	ends(t, of(7, 3, 4), 8, 4)
	ends(t, of(7, 3, 3), 8, 3)
	ends(t, some(), 9, 5)
	ends(t, of(0, 0, 0, 0), 2, 0)
	ends(t, of(maxIndex, maxTerm), maxIndex, maxTerm)
	ends(t, of(maxIndex-2, 1, 2, maxTerm), maxIndex, maxTerm)
	ends(t, long(100, 70), 170, 10)
}

// says holds what Term says against what it should.
func says(t *testing.T, r api.Roll, i, want int64, there bool) {
	t.Helper()
	if n, ok := roll.Term(r, i); n != want || ok != there {
		t.Errorf("Term(%s, %d): %d %t, not %d %t", show(r), i, n, ok, want, there)
	}
}

func TestP11_2Term(t *testing.T) {
	for i, n := range map[int64]int64{5: 2, 6: 2, 7: 2, 8: 3, 9: 5} {
		says(t, some(), i, n, true)
	}
	for _, i := range []int64{4, 3, 1, 0, -1, -5, -6, 10, 11, 1<<32 + 6, 1<<40 + 6, math.MinInt64 + 6, math.MinInt64, math.MaxInt64} {
		says(t, some(), i, 0, false)
	}
	says(t, api.Roll{}, 0, 0, true)
	says(t, api.Roll{}, 1, 0, false)
	says(t, api.Roll{}, -1, 0, false)
	says(t, of(7, 3), 7, 3, true)
	says(t, of(7, 3), 6, 0, false)
	says(t, of(7, 3), 8, 0, false)
	says(t, of(7, 3, 4), 7, 3, true)
	says(t, of(7, 3, 4), 8, 4, true)
	says(t, of(7, 3, 4), 9, 0, false)
	says(t, of(maxIndex-1, 4, maxTerm), maxIndex, maxTerm, true)
	says(t, of(maxIndex-1, 4, maxTerm), maxIndex+1, 0, false)
	// A Term of 0 is there, other than none.
	says(t, of(0, 0, 0), 1, 0, true)
}

func TestP11_2TermOfEachIndex(t *testing.T) {
	for _, c := range right() {
		for _, i := range append(wild(c.r), near(c.r)...) {
			n, ok := termAt(c.r, i)
			says(t, c.r, i, n, ok)
		}
	}
}

// newer holds what Newer says against what it should.
func newer(t *testing.T, term, index int64, r api.Roll, want bool) {
	t.Helper()
	if got := roll.Newer(term, index, r); got != want {
		t.Errorf("Newer(%d, %d, %s): %t", term, index, show(r), got)
	}
}

func TestP11_4Newer(t *testing.T) {
	// In both the last one is the 9th, of Term 5.
	for _, r := range []api.Roll{some(), of(9, 5), of(8, 1, 5)} {
		for _, c := range []struct {
			term, index int64
			want        bool
		}{
			{6, 9, true}, {6, 10, true}, {6, 8, true}, {6, 1, true}, {6, 0, true}, {maxTerm, 0, true},
			{5, 9, true}, {5, 10, true}, {5, maxIndex, true}, {5, 8, false}, {5, 6, false}, {5, 0, false}, {5, -1, false},
			{4, 9, false}, {4, 10, false}, {4, 8, false}, {4, maxIndex, false}, {0, 0, false}, {0, maxIndex, false}, {-1, maxIndex, false},
			{math.MaxInt64, math.MinInt64, true}, {math.MinInt64, math.MaxInt64, false}, {5, math.MaxInt64, true}, {5, math.MinInt64, false},
		} {
			newer(t, c.term, c.index, r, c.want)
		}
	}
}

func TestP11_4NewerThanNothing(t *testing.T) {
	newer(t, 0, 0, api.Roll{}, true)
	newer(t, 0, 1, api.Roll{}, true)
	newer(t, 1, 0, api.Roll{}, true)
	newer(t, 1, 1, api.Roll{}, true)
	newer(t, 0, -1, api.Roll{}, false)
	newer(t, -1, 0, api.Roll{}, false)
	newer(t, -1, 5, api.Roll{}, false)
}

func TestP11_4NewerThanItself(t *testing.T) {
	for _, c := range right() {
		i, n := c.r.Base, c.r.BaseTerm
		if len(c.r.Entries) > 0 {
			i, n = i+int64(len(c.r.Entries)), c.r.Entries[len(c.r.Entries)-1].Term
		}
		newer(t, n, i, c.r, true)
		newer(t, n, i-1, c.r, false)
		newer(t, n, i+1, c.r, true)
		newer(t, n-1, i+1, c.r, false)
		newer(t, n+1, i-1, c.r, true)
	}
}

package member_test

import (
	"math"
	"math/rand/v2"
	"slices"
	"testing"

	"furlong/api"
	"furlong/desc"
	"furlong/member"
)

// counts holds a count against what it should be, and what was handed in against
// what it was.
func counts(t *testing.T, d api.Desc, ids []int64, want int) {
	t.Helper()
	in, l := d, room(ids, spareId)
	in.Members = room(d.Members, spareMember)
	for range 2 {
		if got := member.Count(in, l); got != want {
			t.Errorf("Count(%s, %s): %d, not %d", show(d), show(ids), got, want)
		}
		untouched(t, "Count", in.Members, d.Members, spareMember)
		untouched(t, "Count", l, ids, spareId)
	}
}

func TestP12_3Count(t *testing.T) {
	for _, c := range []struct {
		ids  []int64
		want int
	}{
		{nil, 0}, {[]int64{}, 0},
		{[]int64{1}, 1}, {[]int64{3}, 1}, {[]int64{6}, 1}, {[]int64{1, 3}, 2}, {[]int64{6, 1}, 2}, {[]int64{1, 3, 6}, 3}, {[]int64{6, 3, 1}, 3},
		{[]int64{2}, 0}, {[]int64{7}, 0}, {[]int64{8}, 0}, {[]int64{2, 4, 5, 7}, 0}, {[]int64{0}, 0}, {[]int64{-1, -3, -6}, 0},
		{[]int64{1, 1}, 1}, {[]int64{1, 1, 1, 1, 3, 3}, 2}, {[]int64{6, 2, 6}, 1}, {[]int64{7, 7}, 0}, {[]int64{1, 3, 6, 1, 3, 6}, 3},
		{[]int64{9, 8, 7, 6, 5, 4, 3, 2, 1, 0}, 3}, {[]int64{1<<32 + 1, 1<<40 + 3, math.MaxInt64, math.MinInt64}, 0},
	} {
		counts(t, some(), c.ids, c.want)
	}
	for n := range 7 {
		counts(t, five(), []int64{1, 3, 6, 8, 10, 12}[:n], min(n, 5))
		counts(t, one(), []int64{2, 4, 5, 6, 7, 8}[:n], min(n/3, 1))
	}
	counts(t, with(some(), func(d *api.Desc) { d.Members[2].Id, d.Next = maxId-1, maxId }), []int64{maxId - 1, maxId}, 1)
}

// It is told by Ids, not by nodes, nor by places.
func TestP12_3CountGoesByIds(t *testing.T) {
	d := with(some(), func(d *api.Desc) { d.Members, d.Next = of(1, 5, 2, 6, 3, 7), 8 })
	counts(t, d, []int64{0, 1, 2, 3}, 0)
	counts(t, d, []int64{1, 5}, 1)
}

func TestP12_3CountOfManyIds(t *testing.T) {
	var ids []int64
	for i := range int64(1 << 16) {
		ids = append(ids, i+4)
	}
	counts(t, some(), ids, 1)
	counts(t, some(), append(ids, 3, 2, 1), 3)
}

func TestP12_3CountOfDescriptorsThatMayNotBe(t *testing.T) {
	for _, d := range wrong() {
		for _, ids := range [][]int64{nil, {0}, {1, 3, 6}, {-1, 1, maxId + 1}, {math.MaxInt64, math.MinInt64}} {
			counts(t, d, ids, member.Count(d, ids))
		}
	}
	counts(t, api.Desc{}, []int64{1, 2, 3}, 0)
}

// agreed is what is agreed upon, as the chapter tells it.
func agreed(l []int64) int64 {
	best, found := int64(0), false
	for _, n := range l {
		reach := 0
		for _, x := range l {
			if x >= n {
				reach++
			}
		}
		if reach >= desc.Quorum(len(l)) && (!found || n > best) {
			best, found = n, true
		}
	}
	return best
}

// agrees holds what is agreed upon against what should be, and the numbers, which
// may be handed over as a list, against what they were.
func agrees(t *testing.T, want int64, l ...int64) {
	t.Helper()
	in := room(l, spareId)
	for range 2 {
		if got := member.Agreed(in...); got != want {
			t.Errorf("Agreed(%s): %d, not %d", show(l), got, want)
		}
		untouched(t, "Agreed", in, l, spareId)
	}
}

func TestP12_3Agreed(t *testing.T) {
	agrees(t, 0)
	agrees(t, 5, 5)
	agrees(t, 0, 0)
	agrees(t, 3, 5, 3)
	agrees(t, 3, 3, 5)
	agrees(t, 7, 5, 9, 7)
	agrees(t, 5, 5, 9, 7, 1)
	agrees(t, 5, 9, 1, 5, 3, 7)
	agrees(t, 4, 4, 4, 4, 4)
	agrees(t, 4, 4, 9, 4)
	agrees(t, 4, 4, 1, 4)
	agrees(t, 0, 9, 0, 0)
	agrees(t, 3, 6, 5, 4, 3, 2, 1)
	agrees(t, maxId, maxId, 1<<40, 0)
}

func TestP12_3AgreedOfNumbersBelowNone(t *testing.T) {
	agrees(t, -5, -5)
	agrees(t, -5, -5, 3)
	agrees(t, -5, -3, -5)
	agrees(t, -5, -7, -5, -3)
	agrees(t, -7, -7, -5, -3, -9)
	agrees(t, math.MinInt64, math.MinInt64)
	agrees(t, math.MinInt64, math.MaxInt64, math.MinInt64)
	agrees(t, math.MaxInt64, math.MaxInt64, math.MinInt64, math.MaxInt64)
	agrees(t, -1, math.MaxInt64, math.MinInt64, -1)
}

func TestP12_3AgreedOfAllShortLists(t *testing.T) {
	for n := range 7 {
		for _, l := range lists(n, []int64{-2, 0, 1, 4, 5}) {
			agrees(t, agreed(l), l...)
		}
	}
}

func TestP12_3AgreedInAnyOrder(t *testing.T) {
	rnd := rand.New(rand.NewPCG(12, 3))
	for n := 1; n < 60; n++ {
		var l []int64
		for range n {
			l = append(l, rnd.Int64N(40)-10)
		}
		want := agreed(l)
		for range 20 {
			rnd.Shuffle(n, func(i, j int) { l[i], l[j] = l[j], l[i] })
			agrees(t, want, l...)
		}
	}
}

func TestP12_3AgreedOfManyNumbers(t *testing.T) {
	var l []int64
	for i := range int64(1 << 17) {
		l = append(l, i*7919%(1<<17))
	}
	agrees(t, 1<<16-1, l...)
	if !slices.Contains(l, 1<<16-1) {
		t.Error("it is none of them")
	}
}

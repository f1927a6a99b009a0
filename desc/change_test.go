package desc_test

import (
	"math"
	"testing"

	"furlong/api"
	"furlong/desc"
)

// part is d, as Split leaves it: in a bound, with a number, a generation on.
func part(d api.Desc, b api.Bound, id int64) api.Desc {
	return with(d, func(d *api.Desc) { d.Bound, d.Id, d.Gen = b, id, d.Gen+1 })
}

// splits holds both of a split's answers against what they should be.
func splits(t *testing.T, d api.Desc, key string, id int64, l, r api.Desc, want api.Errno) {
	t.Helper()
	gotL, gotR, e := desc.Split(d, key, id)
	wants(t, "Split, left", gotL, e, l, want)
	wants(t, "Split, right", gotR, e, r, want)
}

func TestP6_2SplitIsBothParts(t *testing.T) {
	for _, c := range []struct {
		b          api.Bound
		key        string
		left, rest api.Bound
	}{
		{of("c", "p"), "m", of("c", "m"), of("m", "p")},
		{of("", ""), "m", of("", "m"), of("m", "")},
		{of("c", ""), "m", of("c", "m"), of("m", "")},
		{of("", "p"), "m", of("", "m"), of("m", "p")},
		{of("c", "p"), "c\x00", of("c", "c\x00"), of("c\x00", "p")},
		{of("c", "p"), "o\xff", of("c", "o\xff"), of("o\xff", "p")},
		{of("", ""), "\x00", of("", "\x00"), of("\x00", "")},
		{of("", a(33)), a(32), of("", a(32)), of(a(32), a(33))},
	} {
		d := with(some(), func(d *api.Desc) { d.Bound = c.b })
		splits(t, d, c.key, 5, part(d, c.left, 4), part(d, c.rest, 5), api.OK)
	}
}

func TestP6_2SplitTakesAGreaterId(t *testing.T) {
	for _, id := range []int64{5, 6, 100, maxId - 1, maxId} {
		splits(t, some(), "m", id, part(some(), of("c", "m"), 4), part(some(), of("m", "p"), id), api.OK)
	}
	for _, id := range []int64{4, 3, 1, 0, -1, -5, math.MinInt64} {
		splits(t, some(), "m", id, api.Desc{}, api.Desc{}, api.ErrArg)
	}
	for _, id := range []int64{maxId + 1, 1 << 41, 1<<62 + 5, math.MaxInt64} {
		splits(t, some(), "m", id, api.Desc{}, api.Desc{}, api.ErrDesc)
	}
	last := with(some(), func(d *api.Desc) { d.Id = maxId })
	splits(t, last, "m", maxId, api.Desc{}, api.Desc{}, api.ErrArg)
	splits(t, last, "m", maxId+1, api.Desc{}, api.Desc{}, api.ErrDesc)
}

func TestP6_2SplitRefusesAKeyThatCannotCut(t *testing.T) {
	for _, key := range []string{"c", "p", "b", "b\xff", "p\x00", "z", "", a(33), "d" + a(32), a(100000)} {
		splits(t, some(), key, 5, api.Desc{}, api.Desc{}, api.ErrBound)
		splits(t, some(), key, 4, api.Desc{}, api.Desc{}, api.ErrBound)
		splits(t, some(), key, maxId+1, api.Desc{}, api.Desc{}, api.ErrBound)
	}
	for _, key := range []string{"", a(33)} {
		all := with(some(), func(d *api.Desc) { d.Bound = of("", "") })
		splits(t, all, key, 5, api.Desc{}, api.Desc{}, api.ErrBound)
	}
}

func TestP6_2SplitAtTheLastGeneration(t *testing.T) {
	d := with(some(), func(d *api.Desc) { d.Gen = maxId - 1 })
	splits(t, d, "m", 5, part(d, of("c", "m"), 4), part(d, of("m", "p"), 5), api.OK)
	d.Gen = maxId
	splits(t, d, "m", 5, api.Desc{}, api.Desc{}, api.ErrDesc)
	splits(t, d, "m", 4, api.Desc{}, api.Desc{}, api.ErrArg)
	splits(t, d, "c", 5, api.Desc{}, api.Desc{}, api.ErrBound)
	d = with(some(), func(d *api.Desc) { d.Next = maxId })
	splits(t, d, "m", 5, part(d, of("c", "m"), 4), part(d, of("m", "p"), 5), api.OK)
}

func TestP6_2SplitRefusesWhatMayNotBe(t *testing.T) {
	for _, c := range wrong() {
		for _, key := range []string{"m", "c", "", a(33)} {
			for _, id := range []int64{5, 4, 0, maxId, maxId + 1, math.MaxInt64, math.MinInt64} {
				splits(t, c.d, key, id, api.Desc{}, api.Desc{}, api.ErrDesc)
			}
		}
	}
}

func TestP6_2SplitLeavesItsListAlone(t *testing.T) {
	for _, c := range right() {
		d := roomy(c.d)
		l, r, _ := desc.Split(d, "m", c.d.Id+1)
		alone(t, "Split", d, c.d, l, r)
	}
}

// left and near are neighbours.
func left() api.Desc {
	return api.Desc{Id: 4, Bound: of("c", "p"), Gen: 9, Members: at(2, 7, 1), Next: 8}
}

func near() api.Desc {
	return api.Desc{Id: 6, Bound: of("p", "t"), Gen: 5, Members: at(1, 2, 3, 4), Next: 12}
}

// merges holds a merge's answer against what it should be.
func merges(t *testing.T, l, r, want api.Desc, wantE api.Errno) {
	t.Helper()
	got, e := desc.Merge(l, r)
	wants(t, "Merge", got, e, want, wantE)
}

func TestP6_2MergeIsTheLeftOneToTheEndOfTheOther(t *testing.T) {
	for _, c := range []struct{ l, r, want api.Bound }{
		{of("c", "p"), of("p", "t"), of("c", "t")},
		{of("", "p"), of("p", ""), of("", "")},
		{of("", "p"), of("p", "t"), of("", "t")},
		{of("c", "p"), of("p", ""), of("c", "")},
		{of("", a(33)), of(a(33), "b"), of("", "b")},
	} {
		l := with(left(), func(d *api.Desc) { d.Bound = c.l })
		r := with(near(), func(d *api.Desc) { d.Bound = c.r })
		merges(t, l, r, with(l, func(d *api.Desc) { d.Bound, d.Gen = c.want, 10 }), api.OK)
	}
}

func TestP6_2MergeIsBehindBothGenerations(t *testing.T) {
	for _, c := range []struct {
		l, r, want int64
		e          api.Errno
	}{
		{1, 1, 2, api.OK}, {9, 5, 10, api.OK}, {5, 9, 10, api.OK}, {9, 9, 10, api.OK}, {1, 1000, 1001, api.OK}, {1000, 1, 1001, api.OK},
		{maxId - 1, 1, maxId, api.OK}, {1, maxId - 1, maxId, api.OK}, {maxId - 1, maxId - 1, maxId, api.OK},
		{maxId, 1, 0, api.ErrDesc}, {1, maxId, 0, api.ErrDesc}, {maxId, maxId, 0, api.ErrDesc}, {maxId - 1, maxId, 0, api.ErrDesc},
	} {
		l := with(left(), func(d *api.Desc) { d.Gen = c.l })
		r := with(near(), func(d *api.Desc) { d.Gen = c.r })
		merges(t, l, r, with(l, func(d *api.Desc) { d.Bound, d.Gen = of("c", "t"), c.want }), c.e)
	}
}

func TestP6_2MergeTakesAnyOtherId(t *testing.T) {
	for _, id := range []int64{1, 3, 5, maxId} {
		r := with(near(), func(d *api.Desc) { d.Id = id })
		merges(t, left(), r, with(left(), func(d *api.Desc) { d.Bound, d.Gen = of("c", "t"), 10 }), api.OK)
	}
	r := with(near(), func(d *api.Desc) { d.Id = 4 })
	merges(t, left(), r, api.Desc{}, api.ErrArg)
	merges(t, with(left(), func(d *api.Desc) { d.Gen = maxId }), r, api.Desc{}, api.ErrArg)
	// Next is the left one's, whatever the other one's is.
	r = with(near(), func(d *api.Desc) { d.Next = maxId })
	merges(t, left(), r, with(left(), func(d *api.Desc) { d.Bound, d.Gen = of("c", "t"), 10 }), api.OK)
}

func TestP6_2MergeRefusesWhatDoesNotLieSideBySide(t *testing.T) {
	for _, b := range []api.Bound{of("o", "t"), of("p\x00", "t"), of("c", "p"), of("", ""), of("", "c"), of("a", "c"), of("q", ""), of("c", "t"), of("d", "e"), of("", "p")} {
		for _, id := range []int64{6, 4} {
			for _, gen := range []int64{5, maxId} {
				r := with(near(), func(d *api.Desc) { d.Bound, d.Id, d.Gen = b, id, gen })
				merges(t, left(), r, api.Desc{}, api.ErrBound)
			}
		}
	}
	merges(t, near(), left(), api.Desc{}, api.ErrBound)
	merges(t, left(), left(), api.Desc{}, api.ErrBound)
	all := with(left(), func(d *api.Desc) { d.Bound = of("", "") })
	merges(t, all, with(near(), func(d *api.Desc) { d.Bound = of("", "") }), api.Desc{}, api.ErrBound)
}

func TestP6_2MergeRefusesWhatMayNotBe(t *testing.T) {
	for _, c := range wrong() {
		merges(t, c.d, near(), api.Desc{}, api.ErrDesc)
		merges(t, c.d, left(), api.Desc{}, api.ErrDesc)
		merges(t, c.d, c.d, api.Desc{}, api.ErrDesc)
		merges(t, with(left(), func(d *api.Desc) { d.Bound = of("a", "c") }), c.d, api.Desc{}, api.ErrDesc)
		merges(t, near(), c.d, api.Desc{}, api.ErrDesc)
	}
}

func TestP6_2MergeLeavesItsListsAlone(t *testing.T) {
	l, r := roomy(left()), roomy(near())
	m, _ := desc.Merge(l, r)
	alone(t, "Merge", l, left(), m)
	alone(t, "Merge", r, near(), m)
}

// adds and removes hold an answer against what it should be.
func adds(t *testing.T, d api.Desc, node int, want api.Desc, wantE api.Errno) {
	t.Helper()
	got, e := desc.Add(d, node)
	wants(t, "Add", got, e, want, wantE)
}

func removes(t *testing.T, d api.Desc, id int64, want api.Desc, wantE api.Errno) {
	t.Helper()
	got, e := desc.Remove(d, id)
	wants(t, "Remove", got, e, want, wantE)
}

// more is d with a member more.
func more(d api.Desc, node int) api.Desc {
	return with(d, func(d *api.Desc) {
		d.Members = append(d.Members, api.Member{Node: node, Id: d.Next})
		d.Next, d.Gen = d.Next+1, d.Gen+1
	})
}

func TestP6_3AddIsAMemberMore(t *testing.T) {
	for _, node := range []int{3, 4, 5, 6} {
		adds(t, some(), node, more(some(), node), api.OK)
	}
	one := api.Desc{Id: 1, Gen: 1, Members: at(4), Next: 2}
	for _, node := range []int{1, 2, 3, 5, 6, 7} {
		adds(t, one, node, more(one, node), api.OK)
	}
	four := api.Desc{Id: 1, Gen: 1, Members: at(1, 2, 3, 4), Next: 90}
	adds(t, four, 5, more(four, 5), api.OK)
}

func TestP6_3AddRefusesWhereItMayNot(t *testing.T) {
	full := api.Desc{Id: 1, Gen: 1, Members: at(1, 2, 3, 4, 5), Next: 6}
	gone := with(some(), func(d *api.Desc) { d.Gen = maxId })
	for _, node := range noNodes() {
		adds(t, some(), node, api.Desc{}, api.ErrArg)
		adds(t, full, node, api.Desc{}, api.ErrArg)
		adds(t, gone, node, api.Desc{}, api.ErrArg)
	}
	for _, node := range []int{2, 7, 1} {
		adds(t, some(), node, api.Desc{}, api.ErrThere)
		adds(t, gone, node, api.Desc{}, api.ErrThere)
	}
	for node := 1; node <= 5; node++ {
		adds(t, full, node, api.Desc{}, api.ErrThere)
	}
	for _, gen := range []int64{1, maxId} {
		full.Gen = gen
		adds(t, full, 6, api.Desc{}, api.ErrMany)
		adds(t, full, 7, api.Desc{}, api.ErrMany)
	}
}

func TestP6_3AddAtTheLastNumbers(t *testing.T) {
	d := with(some(), func(d *api.Desc) { d.Gen = maxId - 1 })
	adds(t, d, 3, more(d, 3), api.OK)
	d.Gen = maxId
	adds(t, d, 3, api.Desc{}, api.ErrDesc)
	d = with(some(), func(d *api.Desc) { d.Next = maxId - 1 })
	adds(t, d, 3, more(d, 3), api.OK)
	d.Next = maxId
	adds(t, d, 3, api.Desc{}, api.ErrDesc)
}

func TestP6_3AddRefusesWhatMayNotBe(t *testing.T) {
	for _, c := range wrong() {
		for _, node := range []int{3, 2, 0, 8, math.MaxInt, math.MinInt} {
			adds(t, c.d, node, api.Desc{}, api.ErrDesc)
		}
	}
}

func TestP6_3RemoveIsAMemberLess(t *testing.T) {
	for i, m := range some().Members {
		removes(t, some(), m.Id, with(some(), func(d *api.Desc) {
			d.Members = append(d.Members[:i:i], some().Members[i+1:]...)
			d.Gen++
		}), api.OK)
	}
	full := api.Desc{Id: 1, Gen: 1, Members: at(5, 4, 3, 2, 1), Next: 6}
	removes(t, full, 5, api.Desc{Id: 1, Gen: 2, Members: at(5, 4, 3, 2), Next: 6}, api.OK)
	two := api.Desc{Id: 1, Gen: 1, Members: at(5, 4), Next: 3}
	removes(t, two, 2, api.Desc{Id: 1, Gen: 2, Members: at(5), Next: 3}, api.OK)
}

func TestP6_3RemoveRefusesWhomThereIsNot(t *testing.T) {
	one := api.Desc{Id: 1, Gen: 1, Members: []api.Member{{Node: 2, Id: 5}}, Next: 7}
	for _, id := range []int64{0, 2, 4, 7, 8, -1, -6, maxId, maxId + 1, 1<<32 + 5, math.MaxInt64, math.MinInt64} {
		removes(t, some(), id, api.Desc{}, api.ErrNone)
		removes(t, with(some(), func(d *api.Desc) { d.Gen = maxId }), id, api.Desc{}, api.ErrNone)
		removes(t, one, id, api.Desc{}, api.ErrNone)
	}
}

func TestP6_3RemoveKeepsTheOnlyOne(t *testing.T) {
	for _, gen := range []int64{1, maxId} {
		one := api.Desc{Id: 1, Gen: gen, Members: []api.Member{{Node: 2, Id: 5}}, Next: 7}
		removes(t, one, 5, api.Desc{}, api.ErrArg)
	}
}

func TestP6_3RemoveAtTheLastNumbers(t *testing.T) {
	d := with(some(), func(d *api.Desc) { d.Gen, d.Next = maxId-1, maxId })
	removes(t, d, 6, with(d, func(d *api.Desc) { d.Gen, d.Members = maxId, d.Members[:2] }), api.OK)
	d.Gen = maxId
	removes(t, d, 6, api.Desc{}, api.ErrDesc)
}

func TestP6_3RemoveRefusesWhatMayNotBe(t *testing.T) {
	for _, c := range wrong() {
		for _, id := range []int64{1, 3, 6, 0, 99, math.MaxInt64, math.MinInt64} {
			removes(t, c.d, id, api.Desc{}, api.ErrDesc)
		}
	}
}

func TestP6_3AddAndRemoveLeaveTheirListAlone(t *testing.T) {
	for _, c := range right() {
		for node := 1; node <= 7; node++ {
			d := roomy(c.d)
			r, _ := desc.Add(d, node)
			alone(t, "Add", d, c.d, r)
		}
		for _, m := range c.d.Members {
			d := roomy(c.d)
			r, _ := desc.Remove(d, m.Id)
			alone(t, "Remove", d, c.d, r)
		}
	}
}

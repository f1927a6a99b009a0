package deed_test

import (
	"math"
	"slices"
	"strconv"
	"testing"

	"furlong/api"
	"furlong/bound"
	"furlong/deed"
	"furlong/desc"
	"furlong/session"
)

// cuts holds what a cut comes to against what it should be, and what was handed
// in against what it was.
func cuts(t *testing.T, p api.Plot, key string, id int64, left, right api.Plot, wantE api.Errno) {
	t.Helper()
	what := "Cut of " + show(p) + " at " + show(key) + " with " + strconv.FormatInt(id, 10)
	in := roomy(p)
	l, r, e := deed.Cut(in, key, id)
	wants(t, what+", left", l, e, left, wantE)
	wants(t, what+", right", r, e, right, wantE)
	alone(t, what, in, p, l, r)
	l, r, _ = deed.Cut(in, key, id)
	alone(t, what, in, p, r, l)
}

// part is one part of a cut of p, as the chapter tells it.
func part(p api.Plot, d api.Desc, alloc int64) api.Plot {
	q := api.Plot{Desc: d, Sessions: p.Sessions, Eaten: p.Eaten, Alloc: alloc}
	for _, x := range p.Pairs {
		if bound.Has(d.Bound, x.Key) {
			q.Pairs = append(q.Pairs, x)
		}
	}
	return q
}

func TestP9_3CutOfSome(t *testing.T) {
	members := some().Desc.Members
	for _, c := range []struct {
		key         string
		left, right []string
	}{
		{"g", []string{"c"}, []string{"g", "m", "o\xff"}},
		{"g\x00", []string{"c", "g"}, []string{"m", "o\xff"}},
		{"f\xff", []string{"c"}, []string{"g", "m", "o\xff"}},
		{"m", []string{"c", "g"}, []string{"m", "o\xff"}},
		{"c\x00", []string{"c"}, []string{"g", "m", "o\xff"}},
		{"o\xff", []string{"c", "g", "m"}, []string{"o\xff"}},
		{"o\xff\xff", []string{"c", "g", "m", "o\xff"}, nil},
	} {
		for _, id := range []int64{5, 6, 8, 12, maxId - 1, maxId} {
			left := with(some(), func(p *api.Plot) {
				p.Desc, p.Pairs = api.Desc{Id: 4, Bound: api.Bound{From: "c", To: c.key}, Gen: 10, Members: members, Next: 8}, pairs(c.left...)
			})
			right := with(some(), func(p *api.Plot) {
				p.Desc, p.Pairs = api.Desc{Id: id, Bound: api.Bound{From: c.key, To: "p"}, Gen: 10, Members: members, Next: 8}, pairs(c.right...)
				p.Alloc = 0
			})
			cuts(t, some(), c.key, id, left, right, api.OK)
		}
	}
}

func TestP9_3CutOfAllThatMayBe(t *testing.T) {
	for _, c := range right() {
		for _, key := range append(spots(), "d", "c"+a(31), "d000001") {
			for _, id := range []int64{5, 8, maxId} {
				l, r, e := desc.Split(c.p.Desc, key, id)
				if c.p.Frozen {
					e = api.ErrDeed
				}
				cuts(t, c.p, key, id, part(c.p, l, c.p.Alloc), part(c.p, r, 0), e)
			}
		}
	}
}

func TestP9_3CutWithPairsOnOneSideAlone(t *testing.T) {
	for _, keys := range [][]string{nil, {"d"}, {"d", "e", "f"}, {"i", "j"}, {"h"}, {"h", "i"}, {"g\xff", "h", "h\x00"}} {
		p := with(some(), func(p *api.Plot) { p.Pairs = pairs(keys...) })
		l, r, _ := desc.Split(p.Desc, "h", 20)
		cuts(t, p, "h", 20, part(p, l, 11), part(p, r, 0), api.OK)
	}
}

func TestP9_3CutOfMany(t *testing.T) {
	for n := range 30 {
		p := with(some(), func(p *api.Plot) { p.Pairs = many(n, "v") })
		for _, x := range append(many(n+1, ""), api.Pair{Key: "d"}, api.Pair{Key: "e"}) {
			l, r, _ := desc.Split(p.Desc, x.Key, 20)
			cuts(t, p, x.Key, 20, part(p, l, 11), part(p, r, 0), api.OK)
		}
	}
}

func TestP9_3TheFirstErrorOfACut(t *testing.T) {
	frozen := func(p *api.Plot) { p.Frozen = true }
	last := func(p *api.Plot) { p.Desc.Gen = maxId }
	both := func(p *api.Plot) { frozen(p); last(p) }
	none := func(p *api.Plot) {}
	for _, c := range []struct {
		change func(p *api.Plot)
		key    string
		id     int64
		want   api.Errno
	}{
		{none, "c", 5, api.ErrBound}, {none, "p", 5, api.ErrBound}, {none, "", 5, api.ErrBound}, {none, "b", 5, api.ErrBound}, {none, "z", 5, api.ErrBound}, {none, "d" + a(32), 5, api.ErrBound},
		{none, "g", 4, api.ErrArg}, {none, "g", 3, api.ErrArg}, {none, "g", 1, api.ErrArg}, {none, "g", 0, api.ErrArg}, {none, "g", -5, api.ErrArg}, {none, "g", math.MinInt64, api.ErrArg},
		{none, "g", maxId + 1, api.ErrDesc}, {none, "g", math.MaxInt64, api.ErrDesc}, {last, "g", 5, api.ErrDesc},
		{none, "c", 4, api.ErrBound}, {none, "z", 0, api.ErrBound}, {none, "z", maxId + 1, api.ErrBound}, {last, "z", 4, api.ErrBound}, {last, "g", 4, api.ErrArg},
		{frozen, "g", 5, api.ErrDeed}, {frozen, "c", 5, api.ErrDeed}, {frozen, "g", 4, api.ErrDeed}, {frozen, "", 0, api.ErrDeed}, {frozen, "g", maxId + 1, api.ErrDeed},
		{both, "g", 5, api.ErrDeed}, {both, "z", 1, api.ErrDeed},
	} {
		cuts(t, with(some(), c.change), c.key, c.id, api.Plot{}, api.Plot{}, c.want)
	}
}

// Of plots that may not be there is an answer, and they stay as they were.
func TestP9_3CutOfPlotsThatMayNotBe(t *testing.T) {
	for _, c := range wrong() {
		p := roomy(c.p)
		for _, key := range spots() {
			for _, id := range []int64{math.MinInt64, 0, 4, 5, maxId, math.MaxInt64} {
				l, r, e := deed.Cut(p, key, id)
				if e != api.OK && (!equal(l, api.Plot{}) || !equal(r, api.Plot{})) {
					t.Errorf("%s: %s, %s beside %d", c.name, show(l), show(r), e)
				}
				alone(t, c.name, p, c.p, l, r)
			}
		}
	}
}

// joins holds what two plots joined come to against what it should be, and what
// was handed in against what it was.
func joins(t *testing.T, l, r, want api.Plot, wantE api.Errno) {
	t.Helper()
	what := "Join of " + show(l) + " and " + show(r)
	x, y := roomy(l), roomy(r)
	got, e := deed.Join(x, y)
	wants(t, what, got, e, want, wantE)
	alone(t, what, x, l, got)
	alone(t, what, y, r)
}

// joined is what two plots that may be come to, as the chapter tells it.
func joined(l, r api.Plot) (api.Plot, api.Errno) {
	if l.Frozen || !r.Frozen {
		return api.Plot{}, api.ErrDeed
	}
	all := map[int64]int{r.Desc.Id: 1}
	for _, id := range l.Eaten {
		if id == r.Desc.Id {
			return api.Plot{}, api.ErrThere
		}
		all[id] = 1
	}
	for _, id := range r.Eaten {
		all[id] = 1
	}
	d, e := desc.Merge(l.Desc, r.Desc)
	if e != api.OK {
		return api.Plot{}, e
	}
	s, e := session.Merge(l.Sessions, r.Sessions)
	if e != api.OK {
		return api.Plot{}, e
	}
	var eaten []int64
	for id := range all {
		eaten = append(eaten, id)
	}
	slices.Sort(eaten)
	if len(eaten) > maxEaten {
		return api.Plot{}, api.ErrMany
	}
	return api.Plot{Desc: d, Pairs: append(slices.Clone(l.Pairs), r.Pairs...), Sessions: s, Eaten: eaten, Alloc: l.Alloc}, api.OK
}

func TestP9_4JoinOfSome(t *testing.T) {
	joins(t, some(), beside(), api.Plot{
		Desc:  api.Desc{Id: 4, Bound: api.Bound{From: "c", To: "x"}, Gen: 21, Members: some().Desc.Members, Next: 8},
		Pairs: pairs("c", "g", "m", "o\xff", "p", "q", "w"),
		Sessions: []api.Session{
			{Client: 3, Seq: 6, Reply: api.Reply{Value: "later"}},
			{Client: 4, Seq: 2, Reply: api.Reply{}},
			{Client: 9, Seq: 1, Reply: api.Reply{Code: api.ReBad, Err: 60}},
		},
		Eaten: []int64{5, 6, 7, 8, 12},
		Alloc: 11,
	}, api.OK)
}

func TestP9_4JoinOfAllThatMayBe(t *testing.T) {
	count := 0
	for _, c := range right() {
		if c.p.Desc.Bound.To == "p" {
			for _, frozen := range []bool{true, false} {
				r := with(beside(), func(p *api.Plot) { p.Frozen = frozen })
				want, e := joined(c.p, r)
				joins(t, c.p, r, want, e)
				if e == api.OK {
					count++
				}
			}
		}
		// The same ones, from the other side: they begin where this one ends.
		l := with(beside(), func(p *api.Plot) {
			p.Desc.Bound, p.Pairs, p.Frozen, p.Alloc = api.Bound{From: "a", To: c.p.Desc.Bound.From}, pairs("a", "b"), false, 99
		})
		if deed.Check(l) != api.OK {
			continue
		}
		r := with(c.p, func(p *api.Plot) { p.Frozen = true })
		want, e := joined(l, r)
		joins(t, l, r, want, e)
		if e == api.OK {
			count++
		}
	}
	if count < 100 {
		t.Error(count)
	}
}

func TestP9_4WhatIsFrozenIsTheRightOne(t *testing.T) {
	for _, left := range []bool{false, true} {
		for _, right := range []bool{false, true} {
			l := with(some(), func(p *api.Plot) { p.Frozen = left })
			r := with(beside(), func(p *api.Plot) { p.Frozen = right })
			want, e := joined(l, r)
			if (e == api.OK) != (!left && right) {
				t.Fatal(e)
			}
			joins(t, l, r, want, e)
		}
	}
}

func TestP9_4JoinOfWhatWasEatenAlready(t *testing.T) {
	for _, l := range [][]int64{{7}, {1, 7}, {7, 9}, {1, 7, 9}, {6, 7, 8}, numbers(1, 7), numbers(7, 200), numbers(1, 200)} {
		joins(t, with(some(), func(p *api.Plot) { p.Eaten = l }), beside(), api.Plot{}, api.ErrThere)
	}
	// Whom the right one has eaten says nothing of this one.
	for _, l := range [][]int64{{4}, {7}, {4, 7}} {
		r := with(beside(), func(p *api.Plot) { p.Eaten = l })
		want, e := joined(some(), r)
		if e != api.OK {
			t.Fatal(e)
		}
		joins(t, some(), r, want, api.OK)
	}
}

func TestP9_4JoinOfWhatIsNotBeside(t *testing.T) {
	for _, b := range []api.Bound{{From: "q", To: "x"}, {From: "o\xff\xff", To: "x"}, {From: "p\x00", To: "x"}, {From: "x"}, {From: "", To: "c"}, {From: "c", To: "p"}, {}, {From: "", To: "x"}} {
		r := with(beside(), func(p *api.Plot) { p.Desc.Bound, p.Pairs = b, nil })
		joins(t, some(), r, api.Plot{}, api.ErrBound)
	}
	left := with(some(), func(p *api.Plot) { p.Frozen = true })
	right := with(beside(), func(p *api.Plot) { p.Frozen = false })
	joins(t, right, left, api.Plot{}, api.ErrBound)
	end := with(some(), func(p *api.Plot) { p.Desc.Bound.To = "" })
	joins(t, end, with(beside(), func(p *api.Plot) { p.Desc.Bound, p.Pairs = api.Bound{}, nil }), api.Plot{}, api.ErrBound)
	joins(t, some(), with(beside(), func(p *api.Plot) { p.Desc.Id = 4 }), api.Plot{}, api.ErrArg)
	joins(t, some(), with(beside(), func(p *api.Plot) { p.Desc.Gen = maxId }), api.Plot{}, api.ErrDesc)
	joins(t, with(some(), func(p *api.Plot) { p.Desc.Gen = maxId }), beside(), api.Plot{}, api.ErrDesc)
}

func TestP9_4JoinOfAsManySessionsAsMayBe(t *testing.T) {
	for n := range 65 {
		all := clients(1, 65)
		l := with(some(), func(p *api.Plot) { p.Sessions = all[:n] })
		r := with(beside(), func(p *api.Plot) { p.Sessions = all[n:64] })
		want, e := joined(l, r)
		if e != api.OK || len(want.Sessions) != 64 {
			t.Fatal(e)
		}
		joins(t, l, r, want, api.OK)
		if n > 0 {
			joins(t, l, with(r, func(p *api.Plot) { p.Sessions = all[n:] }), api.Plot{}, api.ErrMany)
		}
	}
}

func TestP9_4JoinOfAsManyEatenAsMayBe(t *testing.T) {
	for _, c := range []struct {
		l, r []int64
		many int
	}{
		{nil, nil, 1},
		{numbers(100, 199), nil, 200},
		{numbers(100, 200), nil, 201},
		{nil, numbers(100, 199), 200},
		{nil, numbers(100, 200), 201},
		{numbers(100, 100), numbers(300, 99), 200},
		{numbers(100, 100), numbers(300, 100), 201},
		{numbers(100, 199), numbers(100, 199), 200},
		{numbers(100, 199), numbers(150, 149), 200},
		{numbers(100, 199), numbers(150, 150), 201},
		{numbers(100, 150), numbers(200, 100), 201},
		{numbers(100, 150), numbers(200, 99), 200},
		{numbers(100, 200), numbers(100, 200), 201},
		{numbers(100, 200), numbers(300, 200), 401},
		{numbers(100, 199), []int64{7}, 200},
		{numbers(100, 199), append([]int64{7}, numbers(200, 99)...), 200},
		{nil, numbers(1, 200), 200},
		{numbers(maxId-99, 100), numbers(maxId-198, 100), 200},
		{numbers(maxId-99, 100), numbers(maxId-199, 100), 201},
		{[]int64{1, 3, 5}, []int64{2, 4, 6}, 7},
		{[]int64{1, 3, maxId}, []int64{3, 4, maxId}, 5},
	} {
		l := with(some(), func(p *api.Plot) { p.Eaten = c.l })
		r := with(beside(), func(p *api.Plot) { p.Eaten = c.r })
		want, e := joined(l, r)
		if (c.many > 200) != (e == api.ErrMany) || e == api.OK && len(want.Eaten) != c.many {
			t.Fatal(c.many, e)
		}
		joins(t, l, r, want, e)
	}
}

func TestP9_4AllocIsTheLeftOnes(t *testing.T) {
	n := []int64{0, 1, 5, 11, maxId}
	for _, x := range n {
		for _, y := range n {
			l := with(some(), func(p *api.Plot) { p.Alloc = x })
			r := with(beside(), func(p *api.Plot) { p.Alloc = y })
			want, _ := joined(some(), beside())
			want.Alloc = x
			joins(t, l, r, want, api.OK)
		}
	}
}

// Whichever things are wrong at once: the error is that of the first of them.
func TestP9_4TheFirstErrorOfAJoin(t *testing.T) {
	wrong := []struct {
		change func(l, r *api.Plot)
		want   api.Errno
	}{
		{func(l, r *api.Plot) { l.Frozen = true }, api.ErrDeed},
		{func(l, r *api.Plot) { r.Frozen = false }, api.ErrDeed},
		{func(l, r *api.Plot) {
			l.Eaten = append(l.Eaten, r.Desc.Id)
			slices.Sort(l.Eaten)
		}, api.ErrThere},
		{func(l, r *api.Plot) { r.Desc.Bound.From, r.Pairs = "p\x00", nil }, api.ErrBound},
		{func(l, r *api.Plot) { r.Desc.Id = l.Desc.Id }, api.ErrArg},
		{func(l, r *api.Plot) { r.Desc.Gen = maxId }, api.ErrDesc},
		{func(l, r *api.Plot) { l.Sessions, r.Sessions = clients(1, 40), clients(30, 36) }, api.ErrMany},
		{func(l, r *api.Plot) { l.Eaten, r.Eaten = numbers(100, 150), numbers(200, 100) }, api.ErrMany},
	}
	for set := 1; set < 1<<len(wrong); set++ {
		l, r := some(), beside()
		wantE := api.OK
		// From the last one on, since what an earlier one does must stay done.
		for i := len(wrong) - 1; i >= 0; i-- {
			if set>>i&1 == 1 {
				wrong[i].change(&l, &r)
				wantE = wrong[i].want
			}
		}
		if !may(l) || !may(r) {
			t.Fatalf("%b: %s, %s", set, show(l), show(r))
		}
		joins(t, l, r, api.Plot{}, wantE)
	}
}

// Of plots that may not be there is an answer, and they stay as they were.
func TestP9_4JoinOfPlotsThatMayNotBe(t *testing.T) {
	for _, c := range wrong() {
		frozen := with(c.p, func(p *api.Plot) { p.Frozen = true })
		for _, pair := range [][2]api.Plot{
			{c.p, beside()}, {some(), frozen}, {c.p, frozen}, {c.p, c.p}, {frozen, c.p}, {some(), c.p},
			{with(some(), func(p *api.Plot) { p.Desc.Bound = api.Bound{From: "a", To: "c"} }), frozen},
		} {
			l, r := roomy(pair[0]), roomy(pair[1])
			got, e := deed.Join(l, r)
			if e != api.OK && !equal(got, api.Plot{}) {
				t.Errorf("%s: %s beside %d", c.name, show(got), e)
			}
			alone(t, c.name, l, pair[0], got)
			alone(t, c.name, r, pair[1])
		}
	}
}

package member_test

import (
	"math"
	"slices"
	"testing"

	"furlong/api"
	"furlong/desc"
	"furlong/member"
)

// may holds whether o may be done to p against whether it should be, twice, and p
// against what it was.
func may(t *testing.T, p api.Plot, o api.Order, want bool) {
	t.Helper()
	in := roomy(p)
	for range 2 {
		if got := member.May(in, o); got != want {
			t.Errorf("%s of %s: %t", show(o), show(p), got)
		}
		still(t, "May", in, p)
	}
}

// seen is p, whose client 5 has asked with this Seq last, and was told r.
func seen(p api.Plot, seq int64, r api.Reply) api.Plot {
	p.Sessions = slices.Clone(p.Sessions)
	p.Sessions = slices.Insert(p.Sessions, 1, api.Session{Client: 5, Seq: seq, Reply: r})
	return p
}

// frozen is p, frozen.
func frozen(p api.Plot) api.Plot {
	p.Frozen = true
	return p
}

// changes are an OrAdd and an OrRemove that may be done to some.
func changes() []api.Order {
	return []api.Order{add(3), remove(3)}
}

func TestP12_2WhatChangesTheMembers(t *testing.T) {
	for node := 1; node <= 7; node++ {
		may(t, ground(some()), add(node), node != 2 && node != 7 && node != 1)
		may(t, ground(one()), add(node), node != 4)
		may(t, ground(five()), add(node), false)
	}
	for id := int64(1); id <= 12; id++ {
		may(t, ground(some()), remove(id), id == 1 || id == 3 || id == 6)
		may(t, ground(one()), remove(id), false)
		may(t, ground(five()), remove(id), slices.Contains([]int64{1, 3, 6, 8, 10}, id))
	}
	may(t, ground(some()), remove(maxId), false)
	for _, o := range changes() {
		for _, key := range []string{"c", "c\x00", "g", "o\xff"} {
			o.Key = key
			may(t, ground(some()), o, true)
		}
	}
}

func TestP12_2ItGoesByWhatTheMembersBecome(t *testing.T) {
	for _, d := range right() {
		for node := 1; node <= 7; node++ {
			may(t, ground(d), inside(d, add(node)), !equal(behind(d, add(node)), d))
		}
		for _, id := range []int64{1, 2, 3, 4, 5, 6, 7, 8, 10, 11, maxId - 1} {
			may(t, ground(d), inside(d, remove(id)), !equal(behind(d, remove(id)), d))
		}
	}
}

// inside is o at a key that lies in d's bound.
func inside(d api.Desc, o api.Order) api.Order {
	if d.Bound.From != "" {
		o.Key = d.Bound.From
	}
	return o
}

func TestP12_2OrdersOfOtherKinds(t *testing.T) {
	all := with(some(), func(d *api.Desc) { d.Bound = api.Bound{} })
	for _, o := range others() {
		for _, d := range []api.Desc{some(), one(), five(), all} {
			may(t, ground(d), o, false)
			may(t, frozen(ground(d)), o, false)
		}
		for _, kind := range []int{-1, 14, 10 + 1<<32, math.MaxInt, math.MinInt} {
			o.Kind = kind
			may(t, ground(some()), o, false)
		}
	}
	// Those that change the Desc are done, and yet do not change the members.
	for _, o := range []api.Order{ask(api.Order{Kind: api.OrSplit, Key: "g", Id: 20}), others()[9]} {
		may(t, ground(some()), o, false)
	}
}

func TestP12_2OrdersThatMayNotBe(t *testing.T) {
	for _, o := range refused() {
		may(t, ground(some()), o, false)
		may(t, ground(five()), o, false)
		may(t, frozen(ground(some())), o, false)
		may(t, seen(ground(some()), 1, api.Reply{}), o, false)
	}
}

func TestP12_2WhatWasAskedBefore(t *testing.T) {
	for _, o := range changes() {
		for _, r := range []api.Reply{{}, {Value: desc.Put(some())}, {Has: true}, {Code: api.ReBad, Err: api.ErrThere}, {Code: api.ReFrozen}, {Code: api.ReOld}} {
			p := seen(ground(some()), 8, r)
			for seq, want := range map[int64]bool{1: false, 7: false, 8: false, 9: true, 10: true, maxSeq: true} {
				o.Seq = seq
				may(t, p, o, want)
				may(t, frozen(p), o, false)
			}
		}
		// What others have asked has no part in it.
		p := ground(some())
		for _, client := range []int64{1, 3, 4, 6, 9, 10, maxSeq} {
			o.Client = client
			for _, seq := range []int64{1, 4, 5, 6} {
				o.Seq = seq
				may(t, p, o, !(client == 3 && seq <= 5 || client == 9 && seq == 1))
			}
		}
	}
}

func TestP12_2AFrozenPlot(t *testing.T) {
	for _, o := range changes() {
		may(t, frozen(ground(some())), o, false)
		o.Seq = 9
		may(t, frozen(ground(some())), o, false)
	}
}

func TestP12_2KeysThatLieElsewhere(t *testing.T) {
	for _, o := range changes() {
		for _, key := range []string{"b", "b\xff", "p", "p\x00", "z", "\x00", "\x01g", a(32)} {
			o.Key = key
			may(t, ground(some()), o, false)
		}
	}
}

func TestP12_2WhatCannotBeRemembered(t *testing.T) {
	full := ground(some())
	full.Sessions = nil
	for i := range int64(64) {
		full.Sessions = append(full.Sessions, api.Session{Client: 6 + i, Seq: 2})
	}
	less := full
	less.Sessions = full.Sessions[:63]
	for _, o := range changes() {
		may(t, full, o, false)
		may(t, less, o, true)
		for seq, want := range map[int64]bool{1: false, 2: false, 3: true} {
			o.Client, o.Seq = 6, seq
			may(t, full, o, want)
		}
	}
}

func TestP12_2AtTheLastNumbers(t *testing.T) {
	for _, n := range []int64{maxId - 1, maxId} {
		p := ground(with(some(), func(d *api.Desc) { d.Gen = n }))
		may(t, p, add(3), n < maxId)
		may(t, p, remove(3), n < maxId)
		p = ground(with(some(), func(d *api.Desc) { d.Next = n }))
		may(t, p, add(3), n < maxId)
		may(t, p, remove(3), true)
	}
}

func TestP12_2PlotsThatMayNotBe(t *testing.T) {
	wild := []api.Plot{{}, {Frozen: true}, {Sessions: ground(some()).Sessions}}
	for _, d := range wrong() {
		wild = append(wild, ground(d))
		for _, o := range changes() {
			may(t, ground(d), o, false)
		}
	}
	for _, change := range []func(p *api.Plot){
		func(p *api.Plot) { p.Pairs[0], p.Pairs[1] = p.Pairs[1], p.Pairs[0] },
		func(p *api.Plot) { p.Pairs[0].Key = a(100) },
		func(p *api.Plot) { p.Sessions[0], p.Sessions[1] = p.Sessions[1], p.Sessions[0] },
		func(p *api.Plot) { p.Sessions[0].Client = math.MinInt64 },
		func(p *api.Plot) { p.Sessions[0].Reply.Code = 77 },
		func(p *api.Plot) { p.Sessions = make([]api.Session, 100) },
		func(p *api.Plot) { p.Eaten = []int64{9, 9, -1, 0} },
		func(p *api.Plot) { p.Eaten = make([]int64, 300) },
		func(p *api.Plot) { p.Alloc = -5 },
		func(p *api.Plot) { p.Alloc = math.MaxInt64 },
	} {
		p := ground(some())
		change(&p)
		wild = append(wild, p, frozen(p))
	}
	for _, p := range wild {
		in := roomy(p)
		for _, o := range append(append(others(), refused()...), add(3), remove(3), add(2), remove(2)) {
			first := member.May(in, o)
			if again := member.May(in, o); again != first {
				t.Errorf("%s of %s: %t, and %t", show(o), show(p), first, again)
			}
			if o.Kind != api.OrAdd && o.Kind != api.OrRemove && first {
				t.Errorf("%s of %s: %t", show(o), show(p), first)
			}
			still(t, "May", in, p)
		}
	}
}

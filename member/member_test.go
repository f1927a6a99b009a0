package member_test

import (
	"math"
	"slices"
	"testing"

	"furlong/api"
	"furlong/desc"
	"furlong/member"
	"furlong/order"
)

// is holds what comes of l to d against what should, twice, and what was handed
// in against what it was.
func is(t *testing.T, d api.Desc, l []api.Entry, want api.Desc) {
	t.Helper()
	in, entries := d, room(l, spareEntry)
	in.Members = room(d.Members, spareMember)
	for range 2 {
		got := member.Of(in, entries)
		if !equal(got, want) {
			t.Errorf("%s of %s: %s, not %s", show(l), show(d), show(got), show(want))
		}
		for i := range got.Members[:cap(got.Members)] {
			got.Members[:cap(got.Members)][i] = api.Member{Node: -9, Id: -9}
		}
		untouched(t, "Of", in.Members, d.Members, spareMember)
		untouched(t, "Of", entries, l, spareEntry)
	}
}

func TestP12_1NoEntries(t *testing.T) {
	for _, d := range append(right(), wrong()...) {
		is(t, d, nil, d)
		is(t, d, []api.Entry{}, d)
	}
}

func TestP12_1AnOrAddOfEachNode(t *testing.T) {
	d := some()
	for node := 1; node <= 7; node++ {
		want := with(d, func(d *api.Desc) { d.Members = append(d.Members, api.Member{Node: node, Id: 8}); d.Gen, d.Next = 10, 9 })
		if node == 2 || node == 7 || node == 1 {
			want = d
		}
		is(t, d, entries(add(node)), want)
	}
}

func TestP12_1OneMoreThanThereMayBe(t *testing.T) {
	for node := 1; node <= 7; node++ {
		is(t, five(), entries(add(node)), five())
	}
	four := with(five(), func(d *api.Desc) { d.Members = d.Members[:4] })
	full := with(four, func(d *api.Desc) { d.Members = append(d.Members, api.Member{Node: 5, Id: 11}); d.Gen, d.Next = 10, 12 })
	is(t, four, entries(add(5)), full)
	is(t, four, entries(add(5), add(4), add(6)), full)
}

func TestP12_1AnOrRemoveOfEachNumber(t *testing.T) {
	d := some()
	for id := int64(1); id <= 12; id++ {
		want := d
		if i := slices.Index([]int64{1, 3, 6}, id); i >= 0 {
			want = with(d, func(d *api.Desc) { d.Members = slices.Delete(d.Members, i, i+1); d.Gen = 10 })
		}
		is(t, d, entries(remove(id)), want)
	}
	is(t, d, entries(remove(maxId)), d)
}

func TestP12_1TheLastMemberStays(t *testing.T) {
	is(t, one(), entries(remove(5)), one())
	is(t, some(), entries(remove(1), remove(6), remove(3)), with(some(), func(d *api.Desc) { d.Members, d.Gen = of(7, 3), 11 }))
	is(t, one(), entries(remove(5), add(1), remove(5), remove(8)), with(one(), func(d *api.Desc) { d.Members, d.Gen, d.Next = of(1, 8), 11, 9 }))
}

func TestP12_1SeveralOfWhichOneDoesNothing(t *testing.T) {
	for _, c := range []struct {
		l    []api.Order
		want func(d *api.Desc)
	}{
		{[]api.Order{add(3), add(3), add(4)}, func(d *api.Desc) { d.Members, d.Gen, d.Next = of(2, 1, 7, 3, 1, 6, 3, 8, 4, 9), 11, 10 }},
		{[]api.Order{add(3), add(4), add(5)}, func(d *api.Desc) { d.Members, d.Gen, d.Next = of(2, 1, 7, 3, 1, 6, 3, 8, 4, 9), 11, 10 }},
		{[]api.Order{add(2), add(3)}, func(d *api.Desc) { d.Members, d.Gen, d.Next = of(2, 1, 7, 3, 1, 6, 3, 8), 10, 9 }},
		{[]api.Order{remove(3), remove(3), remove(6)}, func(d *api.Desc) { d.Members, d.Gen = of(2, 1), 11 }},
		{[]api.Order{remove(2), remove(1)}, func(d *api.Desc) { d.Members, d.Gen = of(7, 3, 1, 6), 10 }},
		{[]api.Order{add(3), remove(4), remove(6)}, func(d *api.Desc) { d.Members, d.Gen, d.Next = of(2, 1, 7, 3, 3, 8), 11, 9 }},
	} {
		is(t, some(), entries(c.l...), with(some(), c.want))
	}
}

func TestP12_1TheSameMemberComesAndGoes(t *testing.T) {
	is(t, some(), entries(add(3), remove(8)), with(some(), func(d *api.Desc) { d.Gen, d.Next = 11, 9 }))
	is(t, some(), entries(remove(8), add(3)), with(some(), func(d *api.Desc) { d.Members, d.Gen, d.Next = of(2, 1, 7, 3, 1, 6, 3, 8), 10, 9 }))
	is(t, some(), entries(remove(3), add(7)), with(some(), func(d *api.Desc) { d.Members, d.Gen, d.Next = of(2, 1, 1, 6, 7, 8), 11, 9 }))
	is(t, some(), entries(add(7), remove(3)), with(some(), func(d *api.Desc) { d.Members, d.Gen = of(2, 1, 1, 6), 10 }))
	is(t, some(), entries(remove(3), add(7), remove(3), remove(8), add(7)), with(some(), func(d *api.Desc) { d.Members, d.Gen, d.Next = of(2, 1, 1, 6, 7, 9), 13, 10 }))
}

// Who asks, with which Seq, and at which Key, has no part in it, nor has the Term.
func TestP12_1WhoAsksHasNoPart(t *testing.T) {
	want := with(some(), func(d *api.Desc) { d.Members, d.Gen, d.Next = of(7, 3, 1, 6, 3, 8), 11, 9 })
	for _, n := range []int64{1, 2, 9, maxSeq} {
		for _, key := range []string{"c", "g", "p", "b", "\x00", "\x01m", a(32)} {
			x, y := add(3), remove(1)
			x.Client, x.Seq, x.Key = n, maxSeq+1-n, key
			y.Client, y.Seq, y.Key = n, maxSeq+1-n, key
			l := entries(x, y)
			is(t, some(), l, want)
			l[0].Term, l[1].Term = -n, math.MinInt64
			is(t, some(), l, want)
		}
	}
}

func TestP12_1OtherEntriesDoNothing(t *testing.T) {
	var l []api.Entry
	for _, text := range []string{"", "x", "no order", "0:,", "2:10,", "2:10,1:5,1:1,1:g,0:,0:,0:,1:0,1:0,1:0,1:3", order.Put(add(3)) + "x", " " + order.Put(add(3)), order.Put(add(3))[1:], order.Put(remove(3)) + order.Put(remove(3)), a(70000)} {
		l = append(l, api.Entry{Term: 1, Text: text})
	}
	l = append(l, entries(others()...)...)
	l = append(l, entries(refused()...)...)
	for _, d := range append(right(), wrong()...) {
		is(t, d, l, d)
	}
	for i := range l {
		is(t, some(), l[i:i+1], some())
		now := append(slices.Clone(l[:i]), entries(add(3))...)
		now = append(append(now, l[i:]...), entries(remove(1))...)
		is(t, some(), now, with(some(), func(d *api.Desc) { d.Members, d.Gen, d.Next = of(7, 3, 1, 6, 3, 8), 11, 9 }))
	}
}

func TestP12_1AtTheLastNumbers(t *testing.T) {
	d := with(some(), func(d *api.Desc) { d.Gen = maxId - 1 })
	is(t, d, entries(remove(1), remove(3), add(3)), with(d, func(d *api.Desc) { d.Members, d.Gen = of(7, 3, 1, 6), maxId }))
	is(t, d, entries(add(3), remove(1), add(4)), with(d, func(d *api.Desc) { d.Members, d.Gen, d.Next = of(2, 1, 7, 3, 1, 6, 3, 8), maxId, 9 }))
	d = with(some(), func(d *api.Desc) { d.Next = maxId - 1 })
	is(t, d, entries(add(3), add(4), remove(1)), with(d, func(d *api.Desc) { d.Members, d.Gen, d.Next = of(7, 3, 1, 6, 3, maxId-1), 11, maxId }))
}

func TestP12_1DescriptorsThatMayNotBe(t *testing.T) {
	for _, d := range wrong() {
		is(t, d, entries(add(3), remove(1), add(6), remove(3), remove(5)), d)
	}
}

// All short lists of changes are held against what the chapters say of them.
func TestP12_1AllShortLists(t *testing.T) {
	var some []api.Order
	for node := 1; node <= 7; node++ {
		some = append(some, add(node))
	}
	for _, id := range []int64{1, 2, 3, 5, 6, 8, 9, maxId - 1} {
		some = append(some, remove(id))
	}
	var short [][]api.Order
	for _, x := range some {
		for _, y := range some {
			for _, z := range some {
				short = append(short, []api.Order{x, y, z})
			}
		}
	}
	for _, d := range right() {
		for _, l := range short {
			want := d
			for _, o := range l {
				want = behind(want, o)
			}
			if got := member.Of(d, entries(l...)); !equal(got, want) || desc.Check(got) != api.OK {
				t.Fatalf("%s of %s: %s, not %s", show(l), show(d), show(got), show(want))
			}
		}
	}
}

// A long log is gone through at once.
func TestP12_1ALongLog(t *testing.T) {
	var l []api.Order
	want := one()
	for i := range 30000 {
		o := add(i%7 + 1)
		if i%3 == 2 {
			o = remove(want.Members[0].Id)
		}
		l, want = append(l, o), behind(want, o)
	}
	is(t, one(), entries(l...), want)
}

// With one behind the other, whoever begins later comes to the same.
func TestP12_1InTwoParts(t *testing.T) {
	l := entries(add(3), remove(1), add(2), add(4), remove(3), add(6), remove(9), remove(6), add(1))
	for _, d := range right() {
		want := member.Of(d, l)
		for i := range l {
			is(t, member.Of(d, l[:i]), l[i:], want)
		}
	}
}

func TestP12_1AnAnswerIsNew(t *testing.T) {
	for _, l := range [][]api.Entry{nil, entries(add(3)), entries(remove(3))} {
		d := some()
		x, y := member.Of(d, l), member.Of(d, l)
		was := slices.Clone(y.Members)
		for i := range x.Members {
			x.Members[i] = spareMember
		}
		x.Members = append(x.Members, spareMember)
		if !equal(d, some()) || !slices.Equal(y.Members, was) {
			t.Errorf("%s: an answer shares its list: %s, %s", show(l), show(d), show(y))
		}
	}
}

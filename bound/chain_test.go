package bound_test

import (
	"slices"
	"strings"
	"testing"

	"furlong/api"
	"furlong/bound"
)

// chain is the bounds from "" on that are cut at the texts of ends, which are
// rising.
func chain(ends ...string) []api.Bound {
	var l []api.Bound
	from := ""
	for _, to := range append(slices.Clone(ends), "") {
		l = append(l, of(from, to))
		from = to
	}
	return l
}

// chains are all chains that are cut at some of the ends.
func chains(ends []string) [][]api.Bound {
	var all [][]api.Bound
	for set := range 1 << len(ends) {
		var some []string
		for i, k := range ends {
			if set>>i&1 == 1 {
				some = append(some, k)
			}
		}
		all = append(all, chain(some...))
	}
	return all
}

func TestP2_3NextBeginsWhereTheOtherEnds(t *testing.T) {
	l := append(bounds(texts(2)), wrong()...)
	for _, p := range l {
		for _, q := range l {
			want := bound.Check(p) == api.OK && bound.Check(q) == api.OK && p.To != "" && q.From == p.To
			if bound.Next(p, q) != want {
				t.Fatalf("Next(%q, %q): %v", p, q, !want)
			}
		}
	}
}

func TestP2_3NextAtItsEdges(t *testing.T) {
	for _, c := range []struct {
		p, q api.Bound
		want bool
	}{
		{of("a", "m"), of("m", "z"), true},
		{of("a", "m"), of("m", ""), true},
		{of("", "m"), of("m", ""), true},
		{of("", a(33)), of(a(33), "b"), true},
		{of("m", "z"), of("a", "m"), false},
		{of("a", ""), of("", "m"), false},
		{of("", ""), of("", ""), false},
		{of("a", "m"), of("m\x00", "z"), false},
		{of("a", "m\x00"), of("m", "z"), false},
		{of("a", "m"), of("a", "m"), false},
		{of("m", "m"), of("m", "z"), false},
		{of("a", "m"), of("m", "m"), false},
		{of("a", "m"), of("m", "b"), false},
		{of("n", "m"), of("m", "z"), false},
		{of("", a(34)), of(a(34), ""), false},
		{of(a(34), "b"), of("b", ""), false},
		{of("", "a"), of("a", a(34)), false},
	} {
		if bound.Next(c.p, c.q) != c.want {
			t.Errorf("Next(%q, %q): %v", c.p, c.q, !c.want)
		}
	}
}

func TestP2_3JoinIsBothBounds(t *testing.T) {
	for _, c := range [][3]api.Bound{
		{of("a", "m"), of("m", "z"), of("a", "z")},
		{of("", "m"), of("m", ""), of("", "")},
		{of("a", "m"), of("m", ""), of("a", "")},
		{of("", "m"), of("m", "z"), of("", "z")},
		{of("", a(33)), of(a(33), "b"), of("", "b")},
	} {
		if j, e := bound.Join(c[0], c[1]); j != c[2] || e != api.OK {
			t.Errorf("Join(%q, %q): %q %d", c[0], c[1], j, e)
		}
	}
}

func TestP2_3JoinRefusesWhatIsNotNext(t *testing.T) {
	l := append(bounds(texts(1)), wrong()...)
	for _, p := range l {
		for _, q := range l {
			j, e := bound.Join(p, q)
			if !bound.Next(p, q) {
				if j != (api.Bound{}) || e != api.ErrBound {
					t.Fatalf("Join(%q, %q): %q %d", p, q, j, e)
				}
			} else if j != of(p.From, q.To) || e != api.OK {
				t.Fatalf("Join(%q, %q): %q %d", p, q, j, e)
			}
		}
	}
}

func TestP2_3CutIsBothParts(t *testing.T) {
	for _, c := range []struct {
		b    api.Bound
		k    string
		l, r api.Bound
	}{
		{of("a", "m"), "f", of("a", "f"), of("f", "m")},
		{of("a", ""), "m", of("a", "m"), of("m", "")},
		{of("", ""), "\x00", of("", "\x00"), of("\x00", "")},
		{of("a", "m"), "a\x00", of("a", "a\x00"), of("a\x00", "m")},
		{of("a", "m"), "l\xff", of("a", "l\xff"), of("l\xff", "m")},
		{of("", ""), a(32), of("", a(32)), of(a(32), "")},
		{of("", a(33)), a(32), of("", a(32)), of(a(32), a(33))},
		{of("", "a\x00"), "a", of("", "a"), of("a", "a\x00")},
	} {
		if l, r, e := bound.Cut(c.b, c.k); l != c.l || r != c.r || e != api.OK {
			t.Errorf("Cut(%q, %q): %q %q %d", c.b, c.k, l, r, e)
		}
	}
}

func TestP2_3CutRefusesWhatCannotBeCut(t *testing.T) {
	type cut struct {
		b api.Bound
		k string
	}
	cuts := []cut{
		{of("a", "m"), "a"}, {of("a", "m"), "m"}, {of("a", "m"), "`"}, {of("a", "m"), "z"}, {of("a", "m"), ""}, {of("a", "m"), a(33)},
		{of("", ""), ""}, {of("", "m"), ""}, {of("", ""), a(33)}, {of("", ""), a(100000)}, {of(a(32), ""), a(33)}, {of("a", ""), "a"},
		{of(a(32), ""), a(32)}, {of(a(33), "b"), a(32)},
	}
	for _, w := range wrong() {
		for _, k := range []string{"", "\x00", "a", "ab", "b", "\x7f", "\xff", a(31), a(32), a(33)} {
			cuts = append(cuts, cut{w, k})
		}
	}
	for _, c := range cuts {
		if l, r, e := bound.Cut(c.b, c.k); l != (api.Bound{}) || r != (api.Bound{}) || e != api.ErrBound {
			t.Errorf("Cut(%.40q, %.40q): %.40q %.40q %d", c.b, c.k, l, r, e)
		}
	}
}

func TestP2_4WholeIsAChainFromEndToEnd(t *testing.T) {
	for _, l := range append(chains(texts(1)[1:]),
		chain(), chain("m"), chain("a", "m"), chain("\x00"), chain("\xff", "\xff\xff"), chain("a", "a\x00", "a\x00\x00"), chain(a(32), a(33)),
	) {
		if !bound.Whole(l...) {
			t.Errorf("Whole(%q): false", l)
		}
	}
}

func TestP2_4WholeOfMany(t *testing.T) {
	var ends []string
	for i := range 50000 {
		ends = append(ends, string([]byte{1 + byte(i>>14), byte(i >> 7), byte(i)&127 | 128}))
	}
	slices.Sort(ends)
	l := chain(slices.Compact(ends)...)
	if !bound.Whole(l...) {
		t.Error("many bounds: false")
	}
	if bound.Whole(l[:len(l)-1]...) || bound.Whole(l[1:]...) || bound.Whole(slices.Concat(l[:100], l[101:])...) {
		t.Error("many bounds, without one of them: true")
	}
}

func TestP2_4WholeRefusesWhatHasGapsOrFolds(t *testing.T) {
	for _, l := range [][]api.Bound{
		nil, {},
		{of("", "a")}, {of("a", "")}, {of("a", "m")},
		{of("", "a"), of("a", "m")}, {of("a", "m"), of("m", "")},
		{of("", "a"), of("m", "")}, {of("", "m"), of("a", "")}, {of("", "m"), of("m\x00", "")},
		{of("m", ""), of("", "m")},
		{of("", ""), of("", "")}, {of("", ""), of("", "m"), of("m", "")}, {of("", "m"), of("m", ""), of("", "")},
		{of("", "m"), of("m", ""), of("m", "")}, {of("", "m"), of("", "m"), of("m", "")},
		{of("", "m"), of("m", ""), of("z", "")}, {of("", "m"), of("m", ""), of("", "m"), of("m", "")},
		{of("", "m"), of("m", "a"), of("a", "m"), of("m", "")}, {of("", "m"), of("m", "m"), of("m", "")},
		{of("", "m"), of("m", "a"), of("a", "")},
		{of("", a(34)), of(a(34), "")}, {of("", "a"), of("a", a(34)), of(a(34), "")},
		{of("", ""), of(a(34), "")}, {of("", ""), of("m", "m")},
	} {
		if bound.Whole(l...) {
			t.Errorf("Whole(%q): true", l)
		}
	}
}

// A whole chain is none any more as soon as one of its bounds is missing, comes
// twice, or has changed its place with another one.
func TestP2_4WholeNeedsEachBoundOnceAtItsPlace(t *testing.T) {
	l := chain("a", "b\x00", "c", "m", "\xff")
	for i := range l {
		if missing := slices.Delete(slices.Clone(l), i, i+1); bound.Whole(missing...) {
			t.Errorf("Whole(%q): true", missing)
		}
		if twice := slices.Insert(slices.Clone(l), i, l[i]); bound.Whole(twice...) {
			t.Errorf("Whole(%q): true", twice)
		}
		for j := range i {
			turned := slices.Clone(l)
			turned[i], turned[j] = turned[j], turned[i]
			if bound.Whole(turned...) {
				t.Errorf("Whole(%q): true", turned)
			}
		}
	}
}

func TestP2_4WholeLeavesItsBoundsAlone(t *testing.T) {
	spare := of("spare", "room")
	room := append(chain("a", "m"), spare)
	if !bound.Whole(room[:3]...) || !slices.Equal(room, append(chain("a", "m"), spare)) {
		t.Error(room)
	}
}

func TestP2_6WhatWasCutIsJoinedAgain(t *testing.T) {
	keys := append(texts(2), a(31), a(32), a(33), strings.Repeat("\xff", 32))
	for _, b := range append(bounds(texts(2)), of(a(31), a(33)), of(a(32), ""), of("", a(33)), of("b", strings.Repeat("\xff", 33))) {
		for _, k := range keys {
			l, r, e := bound.Cut(b, k)
			if can := k != "" && len(k) <= 32 && lies(b, k) && k != b.From; can != (e == api.OK) {
				t.Fatalf("Cut(%q, %q): %d", b, k, e)
			}
			if e != api.OK {
				continue
			}
			if j, e := bound.Join(l, r); j != b || e != api.OK {
				t.Fatalf("Cut(%q, %q), joined: %q %d", b, k, j, e)
			}
		}
	}
}

func TestP2_6EachTextLiesInOnePart(t *testing.T) {
	all := texts(2)
	for _, b := range bounds(all) {
		for _, at := range all {
			l, r, e := bound.Cut(b, at)
			if e != api.OK {
				continue
			}
			if bound.Meet(l, r) || !bound.Inside(l, b) || !bound.Inside(r, b) {
				t.Fatalf("Cut(%q, %q): %q %q", b, at, l, r)
			}
			for _, k := range all {
				inLeft, inRight := bound.Has(l, k), bound.Has(r, k)
				if inLeft && inRight || (inLeft || inRight) != bound.Has(b, k) {
					t.Fatalf("Cut(%q, %q): of %q, %v %v", b, at, k, inLeft, inRight)
				}
			}
		}
	}
}

func TestP2_7EachTextLiesInOneOfWholeBounds(t *testing.T) {
	all := append(texts(3), a(32), a(33), a(34))
	for _, l := range append(chains([]string{"\x00", "a", "a\x00", "ab", "b", "\xff\xff"}), chain(a(32), a(33))) {
		if !bound.Whole(l...) {
			t.Fatalf("Whole(%q): false", l)
		}
		for _, k := range all {
			in := 0
			for _, b := range l {
				if bound.Has(b, k) {
					in++
				}
			}
			if in != 1 {
				t.Fatalf("%q lies in %d of %q", k, in, l)
			}
		}
	}
}

// Of all lists of a few bounds just those are Whole of which each text lies in
// just one, and which are rising.
func TestP2_7WholeOfAllShortLists(t *testing.T) {
	ends := []string{"", "a", "a\x00", "b"}
	var some []api.Bound
	for _, from := range ends {
		for _, to := range ends {
			some = append(some, of(from, to))
		}
	}
	lists := [][]api.Bound{nil}
	for range 3 {
		var longer [][]api.Bound
		for _, l := range lists {
			for _, b := range some {
				longer = append(longer, append(slices.Clone(l), b))
			}
		}
		for _, l := range longer {
			if want := onceEach(l, texts(3)); bound.Whole(l...) != want {
				t.Fatalf("Whole(%q): %v", l, !want)
			}
		}
		lists = longer
	}
}

// onceEach is whether the bounds may be, are rising, and each of the texts lies
// in one of them.
func onceEach(l []api.Bound, texts []string) bool {
	for i, b := range l {
		if bound.Check(b) != api.OK || i > 0 && l[i-1].From >= b.From {
			return false
		}
	}
	for _, k := range texts {
		in := 0
		for _, b := range l {
			if lies(b, k) {
				in++
			}
		}
		if in != 1 {
			return false
		}
	}
	return true
}

package deed_test

import (
	"math"
	"slices"
	"testing"

	"furlong/api"
	"furlong/deed"
)

func TestP9_1PlotsThatMayBe(t *testing.T) {
	for _, c := range right() {
		if !may(c.p) {
			t.Fatalf("%s: may not be", c.name)
		}
		if e := deed.Check(c.p); e != api.OK {
			t.Errorf("%s: %d of %s", c.name, e, show(c.p))
		}
	}
}

func TestP9_1PlotsThatMayNotBe(t *testing.T) {
	for _, c := range wrong() {
		if may(c.p) {
			t.Fatalf("%s: may be", c.name)
		}
		if e := deed.Check(c.p); e != api.ErrDeed {
			t.Errorf("%s: %d of %s", c.name, e, show(c.p))
		}
	}
}

// checks holds Check of a plot against what it should be.
func checks(t *testing.T, p api.Plot, want bool) {
	t.Helper()
	wantE := api.ErrDeed
	if want {
		wantE = api.OK
	}
	if e := deed.Check(p); e != wantE {
		t.Errorf("Check: %d, not %d, of %s", e, wantE, show(p))
	}
}

func TestP9_1PairsRiseWithinTheBound(t *testing.T) {
	keys := []string{"", "\x00", "b\xff", "c", "c\x00", "d", "d\xff", "o\xff", "p", "p\x00", "\xff"}
	for _, b := range []api.Bound{{From: "c", To: "p"}, {From: "c"}, {To: "p"}, {}} {
		in := func(k string) bool { return k != "" && k >= b.From && (b.To == "" || k < b.To) }
		try := func(want bool, keys ...string) {
			t.Helper()
			checks(t, with(some(), func(p *api.Plot) { p.Desc.Bound, p.Pairs = b, pairs(keys...) }), want)
		}
		for _, x := range keys {
			try(in(x), x)
			for _, y := range keys {
				try(in(x) && in(y) && x < y, x, y)
				for _, z := range keys {
					try(in(x) && in(y) && in(z) && x < y && y < z, x, y, z)
				}
			}
		}
	}
}

func TestP9_1AKeyHasAtMostMaxKeyBytes(t *testing.T) {
	for n := range 40 {
		for _, b := range []api.Bound{{}, {From: "a"}, {To: "b"}, {From: "a", To: a(33)}} {
			p := with(some(), func(p *api.Plot) { p.Desc.Bound, p.Pairs = b, pairs(a(n)) })
			checks(t, p, 1 <= n && n <= 32)
		}
	}
}

func TestP9_1OnePairOfMany(t *testing.T) {
	for _, n := range []int{1, 2, 100, 2048, 2049, 5000} {
		l := many(n, "v")
		checks(t, with(some(), func(p *api.Plot) { p.Pairs = l }), true)
		for _, i := range []int{0, n / 2, n - 1} {
			for _, change := range []func(x *api.Pair){
				func(x *api.Pair) { x.Value = a(513) },
				func(x *api.Pair) { x.Key = "" },
				func(x *api.Pair) { x.Key = x.Key + a(32) },
				func(x *api.Pair) { x.Key = "b" },
				func(x *api.Pair) { x.Key = "p" },
			} {
				checks(t, with(some(), func(p *api.Plot) {
					p.Pairs = slices.Clone(l)
					change(&p.Pairs[i])
				}), false)
			}
			checks(t, with(some(), func(p *api.Plot) {
				p.Pairs = slices.Clone(l)
				p.Pairs[i].Value = a(512)
			}), true)
			checks(t, with(some(), func(p *api.Plot) { p.Pairs = slices.Insert(slices.Clone(l), i, l[i]) }), false)
		}
	}
}

func TestP9_1EatenRise(t *testing.T) {
	n := []int64{math.MinInt64, -1, 0, 1, 2, 3, maxId - 1, maxId, maxId + 1, math.MaxInt64}
	for _, x := range n {
		for _, y := range n {
			for _, z := range n {
				want := 1 <= x && x < y && y < z && z <= maxId
				checks(t, with(some(), func(p *api.Plot) { p.Eaten = []int64{x, y, z} }), want)
			}
		}
	}
}

func TestP9_1AtMostMaxEaten(t *testing.T) {
	for n := range 256 {
		for _, first := range []int64{1, 3, maxId - 255} {
			checks(t, with(some(), func(p *api.Plot) { p.Eaten = numbers(first, n) }), n <= 200)
		}
	}
	for i := range 200 {
		for _, id := range []int64{0, -1, int64(i), int64(i + 2), maxId + 1} {
			// The last one may be greater than all, but not than MaxId.
			want := i == 199 && id == 201
			checks(t, with(some(), func(p *api.Plot) {
				p.Eaten = numbers(1, 200)
				p.Eaten[i] = id
			}), want)
		}
	}
}

// What a plot has eaten is only numbers: its own, or one below it, may be
// among them.
func TestP9_1EatenMayBeAnyNumber(t *testing.T) {
	for _, l := range [][]int64{{4}, {1}, {3, 4, 5}, {1, 4}} {
		checks(t, with(some(), func(p *api.Plot) { p.Eaten = l }), true)
	}
}

func TestP9_1CheckLeavesAllAlone(t *testing.T) {
	for _, c := range slices.Concat(right(), wrong()) {
		p := roomy(c.p)
		deed.Check(p)
		alone(t, c.name, p, c.p)
	}
}

package plot_test

import (
	"math"
	"testing"

	"furlong/api"
	"furlong/deed"
	"furlong/plot"
)

// Of plots that may not be there is an answer, and they stay as they were.
func TestP10_2PlotsThatMayNotBe(t *testing.T) {
	orders := append(asks(), refused()...)
	for i, p := range wrong() {
		if deed.Check(p) == api.OK {
			t.Fatalf("plot %d may be: %s", i, show(p))
		}
		in := roomy(p)
		for _, o := range orders {
			_, r, f := plot.Apply(in, o)
			if r.Code != api.ReBad && r.Err != api.OK || r.Code == api.ReBad && r.Err == api.OK {
				t.Errorf("%s of %s: %s", show(o), show(p), show(r))
			}
			if r.Code != api.ReOK && !alike(f, api.Effect{}) {
				t.Errorf("%s of %s: %s beside %s", show(o), show(p), show(f), show(r))
			}
		}
		untouched(t, in, p)
	}
}

// What is wrong in an order is found ahead of what is wrong in a plot.
func TestP10_2OrdersAndPlotsThatMayNotBe(t *testing.T) {
	for _, p := range wrong() {
		for _, o := range refused() {
			stays(t, p, o, bad(api.ErrOrder))
		}
		stays(t, p, api.Order{}, api.Reply{})
	}
}

// No number of a range is given away twice, nor one that none may have.
func TestP10_2AllocThatMayNotBe(t *testing.T) {
	for _, n := range []int64{maxId + 1, 1 << 50, math.MaxInt64 - 1, math.MaxInt64} {
		p := with(first(), func(p *api.Plot) { p.Alloc = n })
		q, r, _ := plot.Apply(p, ask(api.Order{Kind: api.OrAlloc}))
		if !same(r, bad(api.ErrMany)) || q.Alloc != n {
			t.Errorf("%d: %s, %d", n, show(r), q.Alloc)
		}
	}
}

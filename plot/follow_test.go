package plot_test

import (
	"maps"
	"math/rand/v2"
	"slices"
	"strconv"
	"testing"

	"furlong/api"
	"furlong/bound"
	"furlong/deed"
	"furlong/desc"
	"furlong/knot"
	"furlong/order"
	"furlong/plot"
)

// followed fails, unless what came of an order of p may follow it.
func followed(t *testing.T, p api.Plot, o api.Order, q api.Plot, r api.Reply, f api.Effect) {
	t.Helper()
	what := func() string { return show(o) + " of " + show(p) }
	if deed.Check(q) != api.OK || q.Desc.Gen < p.Desc.Gen || q.Desc.Id != p.Desc.Id || order.CheckReply(r) != api.OK {
		t.Fatalf("%s: %s, %s", what(), show(q), show(r))
	}
	if p.Frozen && (!equal(p, q) || !alike(f, api.Effect{})) {
		t.Fatalf("%s: %s, %s, though it is frozen", what(), show(q), show(f))
	}
	if f.Split && (deed.Check(f.Right) != api.OK || f.Right.Desc.Gen <= p.Desc.Gen) || !f.Split && !equal(f.Right, api.Plot{}) {
		t.Fatalf("%s: %s", what(), show(f))
	}
	if q.Frozen && !p.Frozen && (o.Kind != api.OrFreeze || r.Code != api.ReOK) || q.Alloc < p.Alloc {
		t.Fatalf("%s: %s", what(), show(q))
	}
}

func TestP10_3WhatMayBeIsFollowedByWhatMayBe(t *testing.T) {
	for _, p := range right() {
		for _, o := range append(asks(), refused()...) {
			q, r, f := plot.Apply(p, o)
			followed(t, p, o, q, r, f)
		}
	}
}

func TestP10_3AGenerationOnlyRises(t *testing.T) {
	for _, p := range right() {
		for _, o := range asks() {
			q, r, f := plot.Apply(p, o)
			changed := o.Kind == api.OrAdd || o.Kind == api.OrRemove || f.Split || f.Eaten != 0
			if done := changed && r.Code == api.ReOK; done != (q.Desc.Gen > p.Desc.Gen) || !done && !desc.Same(p.Desc, q.Desc) {
				t.Fatalf("%s of %s: %s, %s", show(o), show(p), show(q), show(r))
			}
		}
	}
}

func TestP10_4AgainChangesNothing(t *testing.T) {
	for _, p := range right() {
		for _, o := range append(asks(), refused()...) {
			q, r, _ := plot.Apply(p, o)
			again, s, f := plot.Apply(q, o)
			if !equal(q, again) || !same(r, s) || !alike(f, api.Effect{}) {
				t.Fatalf("%s of %s, again: %s, %s, %s, not %s, %s", show(o), show(p), show(again), show(s), show(f), show(q), show(r))
			}
		}
	}
}

// others are orders of other clients, that change all that there is.
func others(rnd *rand.Rand, seq int64) api.Order {
	o := draw(rnd)
	o.Client, o.Seq = 6+rnd.Int64N(3), seq
	return o
}

// What was done is told again as it was, whatever others have done in between.
func TestP10_4AgainBehindOthers(t *testing.T) {
	rnd := rand.New(rand.NewPCG(10, 4))
	noted, _ := doneBySome()
	for range 30 {
		for _, o := range noted {
			p, r, _ := plot.Apply(some(), o)
			for seq := range int64(30) {
				p, _, _ = plot.Apply(p, others(rnd, seq+1))
				stays(t, p, o, r)
			}
			later := ask(api.Order{Kind: api.OrGet, Key: "g"})
			later.Seq = 2
			p, _, _ = plot.Apply(p, later)
			stays(t, p, o, r)
		}
	}
}

// What was noted last is what is told; of what was asked ahead of it, nothing is
// known any more.
func TestP10_4OnlyTheLastOneIsTold(t *testing.T) {
	p := some()
	for seq := int64(1); seq < 50; seq++ {
		o := api.Order{Kind: api.OrPut, Client: 5, Seq: seq * 3, Key: "d", Value: strconv.FormatInt(seq, 10)}
		p, _, _ = plot.Apply(p, o)
		stays(t, p, o, api.Reply{})
		for back := int64(1); back < o.Seq; back++ {
			o := api.Order{Kind: api.OrDel, Client: 5, Seq: back, Key: "d"}
			stays(t, p, o, api.Reply{Code: api.ReOld})
		}
		if v, ok := deed.Get(p, "d"); v != strconv.FormatInt(seq, 10) || !ok {
			t.Fatal(v)
		}
	}
}

// draw is an order that may be asked of a range between c and p.
func draw(rnd *rand.Rand) api.Order {
	key := string([]byte{'c' + byte(rnd.IntN(13)), byte(rnd.IntN(3))})
	switch rnd.IntN(9) {
	case 0:
		return api.Order{Kind: api.OrDel, Key: key}
	case 1:
		return api.Order{Kind: api.OrSwap, Key: key, Value: "swapped", Old: "v" + key, Has: true}
	case 2:
		return api.Order{Kind: api.OrSwap, Key: key, Value: "v" + key}
	case 3:
		return api.Order{Kind: api.OrScan, Key: key, Limit: 1 + rnd.IntN(5)}
	case 4:
		return api.Order{Kind: api.OrGet, Key: key}
	case 5:
		return api.Order{Kind: api.OrAdd, Key: key, Node: 1 + rnd.IntN(7)}
	case 6:
		return api.Order{Kind: api.OrRemove, Key: key, Id: 1 + rnd.Int64N(20)}
	}
	return api.Order{Kind: api.OrPut, Key: key, Value: "v" + key}
}

// field is all ranges, and what one map of all keys would have.
type field struct {
	t     *testing.T
	plots []api.Plot
	all   map[string]string
	last  int64
	seq   int64
}

// do has the plot with this place do o, of a client of its own.
func (f *field) do(at int, o api.Order) (api.Reply, api.Effect) {
	f.t.Helper()
	f.seq++
	o.Client, o.Seq = 1+f.seq%7, f.seq
	p := f.plots[at]
	q, r, e := plot.Apply(p, o)
	followed(f.t, p, o, q, r, e)
	f.plots[at] = q
	if again, s, e := plot.Apply(q, o); !equal(q, again) || !same(r, s) || !alike(e, api.Effect{}) {
		f.t.Fatalf("%s, again: %s, not %s", show(o), show(s), show(r))
	}
	return r, e
}

// place is which of the plots has key.
func (f *field) place(key string) int {
	return slices.IndexFunc(f.plots, func(p api.Plot) bool { return bound.Has(p.Desc.Bound, key) })
}

// user has an order of a key done by each of the plots: all but one do not have
// it.
func (f *field) user(o api.Order) {
	f.t.Helper()
	value, there := f.all[o.Key]
	home := f.place(o.Key)
	for at, p := range f.plots {
		r, _ := f.do(at, o)
		if at != home {
			if !same(r, moved(p)) || !equal(p, f.plots[at]) {
				f.t.Fatalf("%s of %s: %s", show(o), show(p), show(r))
			}
			continue
		}
		want := api.Reply{Has: there, Value: value}
		switch o.Kind {
		case api.OrPut:
			want = api.Reply{}
			f.all[o.Key] = o.Value
		case api.OrDel:
			want.Value = ""
			delete(f.all, o.Key)
		}
		if !same(r, want) {
			f.t.Fatalf("%s of %s: %s, not %s", show(o), show(p), show(r), show(want))
		}
	}
}

// split has the range of key split there.
func (f *field) split(key string) {
	f.t.Helper()
	at := f.place(key)
	r, e := f.do(at, api.Order{Kind: api.OrSplit, Key: key, Id: f.last + 1})
	if !e.Split {
		if r.Err != api.ErrBound {
			f.t.Fatal(show(r))
		}
		return
	}
	f.last++
	f.plots = slices.Insert(f.plots, at+1, e.Right)
}

// merge has the plot behind the one with this place merged with it.
func (f *field) merge(at int) {
	f.t.Helper()
	right := f.plots[at+1].Desc
	key := right.Bound.From
	r, _ := f.do(at+1, api.Order{Kind: api.OrFreeze, Key: key})
	if s, _ := f.do(at+1, api.Order{Kind: api.OrPut, Key: key, Value: "late"}); s.Code != api.ReFrozen {
		f.t.Fatal(show(s))
	}
	left := f.plots[at].Desc.Bound.From
	if left == "" {
		left = "\x00"
	}
	s, e := f.do(at, api.Order{Kind: api.OrMerge, Key: left, Value: r.Value})
	if !s.Has || e.Eaten != right.Id {
		f.t.Fatal(show(s), show(e))
	}
	if s, e := f.do(at, api.Order{Kind: api.OrMerge, Key: left, Value: r.Value}); s.Has || s.Code != api.ReOK || e.Eaten != 0 {
		f.t.Fatal(show(s), show(e))
	}
	f.plots = slices.Delete(f.plots, at+1, at+2)
}

// holds fails, unless all ranges have what one map would have.
func (f *field) holds() {
	f.t.Helper()
	var bounds []api.Bound
	var l []api.Pair
	for _, p := range f.plots {
		bounds = append(bounds, p.Desc.Bound)
		l = append(l, p.Pairs...)
	}
	var want []api.Pair
	for _, k := range slices.Sorted(maps.Keys(f.all)) {
		want = append(want, api.Pair{Key: k, Value: f.all[k]})
	}
	if !bound.Whole(bounds...) || !slices.Equal(l, want) {
		f.t.Fatalf("%s: %s, not %s", show(bounds), show(l), show(want))
	}
}

// scan goes over all keys, from range to range, by what each of them tells.
func (f *field) scan(limit int) {
	f.t.Helper()
	var l []api.Pair
	for from, at := "", 0; ; {
		r, _ := f.do(at, api.Order{Kind: api.OrScan, Key: from, Limit: limit})
		l = append(l, r.Pairs...)
		if r.Value == "" {
			break
		}
		from, at = r.Value, f.place(r.Value)
	}
	for _, x := range l {
		if f.all[x.Key] != x.Value {
			f.t.Fatalf("%s", show(x))
		}
	}
	if len(l) != len(f.all) || !slices.IsSortedFunc(l, func(x, y api.Pair) int { return compare(x.Key, y.Key) }) {
		f.t.Fatalf("%s, not %s", show(l), show(f.all))
	}
}

// compare is below 0, if a stands ahead of b; above it, if behind it.
func compare(a, b string) int {
	switch {
	case a < b:
		return -1
	case a > b:
		return 1
	}
	return 0
}

func TestP10_5AsIfThereWereOneMap(t *testing.T) {
	rnd := rand.New(rand.NewPCG(10, 5))
	first, _ := plot.First(1, 2, 3)
	f := &field{t: t, plots: []api.Plot{first}, all: map[string]string{}, last: 1}
	for range 3000 {
		key := string([]byte{'a' + byte(rnd.IntN(26)), []byte{0, 'm', 255}[rnd.IntN(3)]})
		switch rnd.IntN(12) {
		case 0:
			if len(f.plots) < 8 {
				f.split(key)
			}
		case 1:
			// As many as may be are eaten by one range in the end.
			if n := len(f.plots); n > 1 && len(f.plots[0].Eaten) < 150 {
				f.merge(rnd.IntN(n - 1))
			}
		case 2, 3:
			f.user(api.Order{Kind: api.OrDel, Key: key})
		case 4, 5, 6:
			f.user(api.Order{Kind: api.OrGet, Key: key})
		case 7:
			f.scan(1 + rnd.IntN(20))
		default:
			f.user(api.Order{Kind: api.OrPut, Key: key, Value: strconv.Itoa(rnd.IntN(1000))})
		}
		f.holds()
	}
	if f.last < 50 {
		t.Error(f.last)
	}
}

func TestP10_5SplitAndMergedHasAllThatThereWas(t *testing.T) {
	for _, key := range []string{"c\x00", "g", "g\x00", "m", "n", "o\xff\xff"} {
		p, _, f := plot.Apply(some(), ask(api.Order{Kind: api.OrSplit, Key: key, Id: 20}))
		l := append(slices.Clone(p.Pairs), f.Right.Pairs...)
		if !slices.Equal(l, some().Pairs) {
			t.Errorf("at %q: %s, %s", key, show(p.Pairs), show(f.Right.Pairs))
		}
		_, r, _ := plot.Apply(f.Right, api.Order{Kind: api.OrFreeze, Client: 5, Seq: 2, Key: key})
		q, s, g := plot.Apply(p, api.Order{Kind: api.OrMerge, Client: 5, Seq: 3, Key: "c", Value: r.Value})
		if !s.Has || g.Eaten != 20 || !slices.Equal(q.Pairs, some().Pairs) || q.Desc.Bound != some().Desc.Bound || !slices.Equal(q.Eaten, []int64{6, 8, 20}) {
			t.Errorf("at %q: %s, %s, %s", key, show(q), show(s), show(g))
		}
		if texts, e := knot.Untie(s.Value); e != api.OK || len(texts) < 5 || s.Value != desc.Put(q.Desc) {
			t.Errorf("at %q: %s", key, show(s))
		}
	}
}

// No order of a key out of its bound tells, or changes, anything of what is in it.
func TestP10_5ElsewhereNothingIsToldNorChanged(t *testing.T) {
	for _, p := range right() {
		for _, o := range asks() {
			if !order.Keyed(o.Kind) || bound.Has(p.Desc.Bound, o.Key) {
				continue
			}
			bare := with(p, func(p *api.Plot) { p.Pairs, p.Eaten = nil, nil })
			_, r, _ := plot.Apply(p, o)
			_, s, _ := plot.Apply(bare, o)
			if !same(r, s) {
				t.Fatalf("%s of %s: %s, not %s", show(o), show(p), show(r), show(s))
			}
		}
	}
}

// The chapter's own example.
func TestP10_4Example(t *testing.T) {
	p, e := plot.First(1, 2, 3)
	if e != api.OK {
		t.Fatal(e)
	}
	o := api.Order{Kind: api.OrPut, Client: 1, Seq: 1, Key: "a", Value: "x"}
	changes(t, p, o, put(p, "a", "x"), api.Reply{})
	p, _, _ = plot.Apply(p, o)
	stays(t, p, o, api.Reply{})
	stays(t, p, api.Order{Kind: api.OrDel, Client: 1, Seq: 1, Key: "a"}, api.Reply{})
	if v, ok := deed.Get(p, "a"); v != "x" || !ok {
		t.Error(v, ok)
	}
}

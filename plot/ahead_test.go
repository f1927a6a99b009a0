package plot_test

import (
	"math"
	"slices"
	"strings"
	"testing"

	"furlong/api"
	"furlong/deed"
	"furlong/desc"
	"furlong/order"
	"furlong/plot"
)

// whole are an order of each kind that some, and a range of all keys, may be
// asked, by the client 5.
func whole() []api.Order {
	return []api.Order{
		ask(api.Order{Kind: api.OrGet, Key: "g"}),
		ask(api.Order{Kind: api.OrPut, Key: "g", Value: "1"}),
		ask(api.Order{Kind: api.OrDel, Key: "g"}),
		ask(api.Order{Kind: api.OrSwap, Key: "g", Value: "1", Old: "vg", Has: true}),
		ask(api.Order{Kind: api.OrScan, Key: "g", To: "n", Limit: 3}),
		ask(api.Order{Kind: api.OrAlloc}),
		ask(api.Order{Kind: api.OrSplit, Key: "g", Id: 20}),
		ask(api.Order{Kind: api.OrFreeze, Key: "g"}),
		ask(api.Order{Kind: api.OrMerge, Key: "g", Value: deed.Put(beside())}),
		ask(api.Order{Kind: api.OrAdd, Key: "g", Node: 3}),
		ask(api.Order{Kind: api.OrRemove, Key: "g", Id: 3}),
		ask(api.Order{Kind: api.OrLook, Key: "g"}),
		ask(api.Order{Kind: api.OrMeta, Value: record("", "m", 3), Limit: 2}),
	}
}

// keyed are those of whole that are for the range of their key.
func keyed() []api.Order {
	return slices.DeleteFunc(whole(), func(o api.Order) bool { return o.Kind == api.OrAlloc || o.Kind == api.OrMeta })
}

// refused are orders that may not be, of each kind, by the client 5.
func refused() []api.Order {
	var l []api.Order
	for _, o := range append(whole(), api.Order{}) {
		for _, change := range []func(o *api.Order){
			func(o *api.Order) { o.Client++; o.Seq = 0 },
			func(o *api.Order) { o.Client = 0; o.Seq = 1 },
			func(o *api.Order) { o.Client, o.Seq = maxSeq+1, 1 },
			func(o *api.Order) { o.Client, o.Seq = 1, maxSeq+1 },
			func(o *api.Order) { o.Client, o.Seq = -1, 1 },
			func(o *api.Order) { o.Client, o.Seq = 1, math.MinInt64 },
			func(o *api.Order) { o.Key = a(34) },
			func(o *api.Order) { o.Value = a(65537) },
			func(o *api.Order) { o.To = "a" },
			func(o *api.Order) { o.Old = a(65) },
			func(o *api.Order) { o.Limit = 101 },
			func(o *api.Order) { o.Limit = -1 },
			func(o *api.Order) { o.Id = -1 },
			func(o *api.Order) { o.Id = maxId + 1 },
			func(o *api.Order) { o.Node = 8 },
			func(o *api.Order) { o.Node = -1 },
			func(o *api.Order) { o.Kind = 14 },
			func(o *api.Order) { o.Kind = -1 },
			func(o *api.Order) { o.Kind = math.MaxInt64 },
		} {
			x := o
			change(&x)
			l = append(l, x)
		}
	}
	for _, o := range keyed() {
		o.Key = ""
		if o.Kind != api.OrScan {
			l = append(l, o)
		}
		o.Key = a(33)
		if o.Kind != api.OrScan {
			l = append(l, o)
		}
	}
	for _, key := range []string{"\x00", "\x01", "\x01m", "\x00a"} {
		l = append(l, ask(api.Order{Kind: api.OrSplit, Key: key, Id: 2}))
	}
	return append(l, ask(api.Order{}), ask(api.Order{Kind: api.OrSplit, Key: "g", Id: 1}), ask(api.Order{Kind: api.OrMeta, Value: "g", Limit: 1}),
		ask(api.Order{Kind: api.OrMeta, Value: record("", "m", 3), Limit: 3}), ask(api.Order{Kind: api.OrMerge, Key: "g"}), ask(api.Order{Kind: api.OrScan, Key: "g", To: "g", Limit: 1}),
		ask(api.Order{Kind: api.OrPut, Key: "g", Value: a(65)}), ask(api.Order{Kind: api.OrSwap, Key: "g", Old: "x"}), ask(api.Order{Kind: api.OrScan, Key: "g"}))
}

func TestP10_2OrdersThatAreRefused(t *testing.T) {
	asked := with(some(), func(p *api.Plot) {
		p.Sessions = []api.Session{{Client: 1, Seq: 9, Reply: api.Reply{Value: "1"}}, {Client: 5, Seq: 1, Reply: api.Reply{Value: "5"}}}
	})
	all := with(some(), func(p *api.Plot) { p.Sessions = clients(6, 64) })
	for _, o := range refused() {
		if order.Check(o) == api.OK {
			t.Fatalf("%s may be", show(o))
		}
		for _, p := range []api.Plot{some(), frozen(some()), first(), beside(), asked, frozen(asked), all} {
			stays(t, p, o, bad(api.ErrOrder))
		}
	}
}

func TestP10_2NoOrder(t *testing.T) {
	for _, p := range right() {
		stays(t, p, api.Order{}, api.Reply{})
	}
}

// Whatever is asked with the Seq that was asked last, is what was asked.
func TestP10_2WhatWasAskedBefore(t *testing.T) {
	for _, r := range []api.Reply{
		{}, {Has: true}, {Has: true, Value: "x"}, {Value: a(512)}, bad(api.ErrOrder), bad(999), {Code: api.ReMoved, Value: "d"}, {Code: api.ReFrozen}, {Code: api.ReOld},
	} {
		p := with(some(), func(p *api.Plot) { p.Sessions = clients(4, 3); p.Sessions[1].Reply = r })
		for _, p := range []api.Plot{p, frozen(p), with(first(), func(q *api.Plot) { q.Sessions = p.Sessions })} {
			for _, o := range whole() {
				o.Seq = 10
				stays(t, p, o, r)
				for _, seq := range []int64{1, 2, 9} {
					o.Seq = seq
					stays(t, p, o, api.Reply{Code: api.ReOld})
				}
			}
			for _, k := range []string{"b", "p", "z"} {
				for _, o := range keyed() {
					o.To, o.Key, o.Seq = "", k, 10
					if order.Check(o) != api.OK {
						t.Fatal(show(o))
					}
					stays(t, p, o, r)
					o.Seq = 3
					stays(t, p, o, api.Reply{Code: api.ReOld})
				}
			}
		}
	}
}

func TestP10_2WhatWasNotAskedBefore(t *testing.T) {
	for _, seq := range []int64{11, 12, 1000, maxSeq} {
		for _, client := range []int64{4, 5, 6} {
			p := with(some(), func(p *api.Plot) { p.Sessions = clients(4, 3) })
			o := api.Order{Kind: api.OrPut, Client: client, Seq: seq, Key: "d", Value: "1"}
			want := put(p, "d", "1")
			want.Sessions[client-4] = api.Session{Client: client, Seq: seq}
			applies(t, p, o, want, api.Reply{}, api.Effect{})
		}
	}
	// What another client has asked says nothing of this one.
	p := with(some(), func(p *api.Plot) { p.Sessions = clients(4, 3) })
	for _, client := range []int64{1, 3, 7, maxSeq} {
		for _, seq := range []int64{1, 9, 10} {
			o := api.Order{Kind: api.OrDel, Client: client, Seq: seq, Key: "g"}
			changes(t, p, o, gone(p, "g"), api.Reply{Has: true})
		}
	}
}

func TestP10_2KeysOutOfItsBound(t *testing.T) {
	out := []string{"\x00", "\x02m", "b", "b\xff\xff", "C", "p", "p\x00", "q", "\xff"}
	in := []string{"c", "c\x00", "d", "g", "o\xff\xff", "o" + strings.Repeat("\xff", 31)}
	for _, o := range keyed() {
		o.To = ""
		for _, p := range []api.Plot{some(), frozen(some())} {
			for _, k := range out {
				o.Key = k
				if order.Check(o) == api.OK {
					stays(t, p, o, moved(p))
				}
			}
			for _, k := range in {
				o.Key = k
				if _, r, _ := plot.Apply(p, o); r.Code == api.ReMoved {
					t.Errorf("%s: %s", show(o), show(r))
				}
			}
		}
	}
}

func TestP10_2AScanFromOutOfItsBound(t *testing.T) {
	for _, k := range []string{"", "b", "b" + a(32), "p", "p" + a(32), "z"} {
		stays(t, some(), ask(api.Order{Kind: api.OrScan, Key: k, Limit: 5}), moved(some()))
		stays(t, frozen(some()), ask(api.Order{Kind: api.OrScan, Key: k, Limit: 5}), moved(some()))
	}
	// No key lies behind the longest of these, but it lies in the bound.
	stays(t, some(), ask(api.Order{Kind: api.OrScan, Key: "o" + strings.Repeat("\xff", 32), Limit: 5}), api.Reply{Value: "p"})
}

func TestP10_2WhereARangeHasNoEnds(t *testing.T) {
	p := with(some(), func(p *api.Plot) { p.Desc.Bound = api.Bound{} })
	for _, k := range []string{"\x00", "b", "p", strings.Repeat("\xff", 32)} {
		changes(t, p, ask(api.Order{Kind: api.OrPut, Key: k, Value: "1"}), put(p, k, "1"), api.Reply{})
	}
	stays(t, p, ask(api.Order{Kind: api.OrScan, Limit: 2}), api.Reply{Pairs: pairs("c", "g"), Value: "m"})
}

func TestP10_2WhatIsFrozen(t *testing.T) {
	for _, p := range []api.Plot{
		frozen(some()), frozen(first()), beside(), frozen(heavy(65536)), frozen(heavy(65537)), frozen(heavy(200000)),
		with(frozen(some()), func(p *api.Plot) { p.Desc.Gen, p.Pairs = maxId, nil }),
		with(frozen(some()), func(p *api.Plot) { p.Sessions = clients(6, 64) }),
		with(frozen(some()), func(p *api.Plot) { p.Sessions, p.Eaten = nil, []int64{7} }),
	} {
		for _, o := range whole() {
			o.To = ""
			if o.Key != "" {
				// The greatest key of some and of first; beside begins where they end.
				o.Key = "o" + strings.Repeat("\xff", 31)
			}
			if p.Desc.Id == 7 && o.Key != "" {
				o.Key = "p"
			}
			text := desc.Put(p.Desc)
			switch o.Kind {
			case api.OrFreeze:
				stays(t, p, o, api.Reply{Value: deed.Put(p)})
			case api.OrLook:
				stays(t, p, o, api.Reply{Has: true, Value: text})
			default:
				stays(t, p, o, api.Reply{Code: api.ReFrozen, Value: text})
			}
		}
	}
}

// What is frozen says so ahead of what the table says, also of what would not be
// done there.
func TestP10_2FrozenAheadOfTheTable(t *testing.T) {
	p := frozen(some())
	want := api.Reply{Code: api.ReFrozen, Value: desc.Put(p.Desc)}
	for _, o := range []api.Order{
		{Kind: api.OrAlloc},
		{Kind: api.OrMeta, Value: record("", "m", 3), Limit: 1},
		{Kind: api.OrMeta, Value: record("", a(33), 3), Limit: 1},
		{Kind: api.OrSplit, Key: "c", Id: 2},
		{Kind: api.OrMerge, Key: "g", Value: "no plot"},
		{Kind: api.OrAdd, Key: "g", Node: 2},
		{Kind: api.OrRemove, Key: "g", Id: 2},
	} {
		stays(t, p, ask(o), want)
	}
}

// Whichever of them hold at once: the answer is that of the first of them.
func TestP10_2TheFirstAnswer(t *testing.T) {
	for set := range 1 << 4 {
		p, o := some(), ask(api.Order{Kind: api.OrSplit, Key: "c", Id: 20})
		var want api.Reply
		switch {
		case set&1 != 0:
			want = bad(api.ErrOrder)
		case set&2 != 0:
			want = api.Reply{Value: "then"}
		case set&4 != 0:
			want = moved(p)
		case set&8 != 0:
			want = api.Reply{Code: api.ReFrozen, Value: desc.Put(p.Desc)}
		default:
			changes(t, p, o, p, bad(api.ErrBound))
			continue
		}
		if set&1 != 0 {
			o.Limit = 1
		}
		if set&2 != 0 {
			p = remembers(p, o, api.Reply{Value: "then"})
		}
		if set&4 != 0 {
			o.Key = "q"
		}
		p.Frozen = set&8 != 0
		stays(t, p, o, want)
	}
}

package plot_test

import (
	"strconv"
	"testing"

	"furlong/api"
	"furlong/deed"
	"furlong/desc"
	"furlong/order"
	"furlong/plot"
	"furlong/session"
)

// doneBySome are what some does of whole that is remembered, and what not.
func doneBySome() (noted, not []api.Order) {
	for _, o := range whole() {
		switch o.Kind {
		case api.OrGet, api.OrScan, api.OrFreeze, api.OrLook, api.OrAlloc, api.OrMeta:
			not = append(not, o)
		default:
			noted = append(noted, o)
		}
	}
	return noted, not
}

func TestP10_2WhatIsNoted(t *testing.T) {
	noted, not := doneBySome()
	for _, o := range noted {
		q, r, _ := plot.Apply(some(), o)
		s, ok := session.Find(q.Sessions, 5)
		if !ok || s.Seq != 1 || !same(s.Reply, r) || len(q.Sessions) < 3 {
			t.Errorf("%s: %s, %s", show(o), show(q.Sessions), show(r))
		}
		if last, _ := session.Find(q.Sessions, 9); o.Kind != api.OrMerge && last.Seq != 1 {
			t.Errorf("%s: %s", show(o), show(q.Sessions))
		}
	}
	for _, o := range not {
		q, _, _ := plot.Apply(some(), o)
		if len(q.Sessions) != 2 {
			t.Errorf("%s: %s", show(o), show(q.Sessions))
		}
	}
}

// What is done by the range that has it, and is not done by another one: it is
// noted just there.
func TestP10_2WhatIsNotedWhereItIsDone(t *testing.T) {
	for _, o := range []api.Order{ask(api.Order{Kind: api.OrAlloc}), ask(api.Order{Kind: api.OrMeta, Value: record("", "m", 3), Limit: 2})} {
		for _, c := range []struct {
			p     api.Plot
			noted bool
		}{{some(), false}, {first(), true}, {with(first(), func(p *api.Plot) { p.Alloc = maxId }), true}} {
			q, r, _ := plot.Apply(c.p, o)
			if s, ok := session.Find(q.Sessions, 5); ok != c.noted || ok && !same(s.Reply, r) || !ok && r.Code != api.ReMoved {
				t.Errorf("%s of %s: %s, %s", show(o), show(c.p), show(q.Sessions), show(r))
			}
		}
	}
}

// What cannot be done is remembered, but of what need not be.
func TestP10_2WhatIsBadIsNoted(t *testing.T) {
	for _, c := range []struct {
		p    api.Plot
		o    api.Order
		want api.Errno
	}{
		{some(), api.Order{Kind: api.OrSplit, Key: "c", Id: 20}, api.ErrBound},
		{some(), api.Order{Kind: api.OrMerge, Key: "c", Value: "x"}, api.ErrDeed},
		{some(), api.Order{Kind: api.OrAdd, Key: "c", Node: 2}, api.ErrThere},
		{some(), api.Order{Kind: api.OrRemove, Key: "c", Id: 2}, api.ErrNone},
		{directory(), api.Order{Kind: api.OrMeta, Value: record("", a(32), 3), Limit: 2}, api.ErrLong},
		{with(first(), func(p *api.Plot) { p.Alloc = maxId }), api.Order{Kind: api.OrAlloc}, api.ErrMany},
	} {
		o := ask(c.o)
		q, r, _ := plot.Apply(c.p, o)
		if s, ok := session.Find(q.Sessions, 5); !ok || s.Seq != 1 || !same(s.Reply, bad(c.want)) || !same(r, bad(c.want)) {
			t.Errorf("%s: %s, %s", show(o), show(q.Sessions), show(r))
		}
	}
	for _, p := range []api.Plot{first(), heavy(65537)} {
		stays(t, p, ask(api.Order{Kind: api.OrFreeze, Key: "g"}), func() api.Reply {
			if p.Desc.Bound.From == "" {
				return bad(api.ErrArg)
			}
			return bad(api.ErrLong)
		}())
	}
}

// A merge of what was merged already does nothing, and is remembered, so that it
// is told the same also behind what others have done.
func TestP10_2WhatWasMergedAlreadyIsNoted(t *testing.T) {
	p := with(some(), func(p *api.Plot) { p.Eaten = []int64{7} })
	o := merge(deed.Put(beside()))
	q, r, _ := plot.Apply(p, o)
	if s, ok := session.Find(q.Sessions, 5); !ok || !same(s.Reply, r) {
		t.Error(show(q.Sessions), show(r))
	}
	q, _, _ = plot.Apply(q, api.Order{Kind: api.OrAdd, Client: 6, Seq: 1, Key: "c", Node: 3})
	stays(t, q, o, r)
}

func TestP10_2NotedInBothPartsOfASplit(t *testing.T) {
	o := ask(api.Order{Kind: api.OrSplit, Key: "g", Id: 20})
	for _, l := range [][]api.Session{nil, clients(5, 1), clients(4, 3), clients(1, 64), clients(6, 63), some().Sessions} {
		p := with(some(), func(p *api.Plot) { p.Sessions = l })
		o.Seq = 11
		q, r, f := plot.Apply(p, o)
		want := remembers(p, o, r).Sessions
		if got := (api.Plot{Sessions: want}); !equal(api.Plot{Sessions: q.Sessions}, got) || !equal(api.Plot{Sessions: f.Right.Sessions}, got) {
			t.Errorf("%s, %s, not %s", show(q.Sessions), show(f.Right.Sessions), show(want))
		}
		// Whichever of them it is asked again: it is told the same.
		stays(t, q, o, r)
		stays(t, f.Right, o, r)
		// Neither changes with the other one.
		q.Sessions[0].Client = -9
		if !equal(api.Plot{Sessions: f.Right.Sessions}, api.Plot{Sessions: want}) {
			t.Error("both parts share their sessions")
		}
	}
}

func TestP10_2OneClientMoreThanMayBe(t *testing.T) {
	full := func(p api.Plot) api.Plot { return with(p, func(p *api.Plot) { p.Sessions = clients(6, 64) }) }
	noted, not := doneBySome()
	for _, o := range noted {
		stays(t, full(some()), o, bad(api.ErrMany))
	}
	for _, o := range not {
		want, r, f := plot.Apply(some(), o)
		want.Sessions = clients(6, 64)
		if o.Kind == api.OrFreeze {
			r.Value = deed.Put(frozen(full(some())))
		}
		applies(t, full(some()), o, want, r, f)
	}
	// Of what cannot be done, too, nothing else is told.
	for _, o := range []api.Order{{Kind: api.OrSplit, Key: "c", Id: 20}, {Kind: api.OrMerge, Key: "g", Value: "x"}, {Kind: api.OrAdd, Key: "g", Node: 2}} {
		stays(t, full(some()), ask(o), bad(api.ErrMany))
	}
	stays(t, full(first()), ask(api.Order{Kind: api.OrAlloc}), bad(api.ErrMany))
	stays(t, full(directory()), meta(2, record("", "z", 1)), bad(api.ErrMany))
	stays(t, full(directory()), meta(2, record("", a(33), 1)), bad(api.ErrMany))
	stays(t, full(some()), ask(api.Order{Kind: api.OrPut, Key: "q", Value: "1"}), moved(some()))
	p := full(with(some(), func(p *api.Plot) { p.Eaten = []int64{7} }))
	stays(t, p, merge(deed.Put(beside())), bad(api.ErrMany))
}

// One of them who asks for something else is done as before; so is one more, where
// there is room for just one.
func TestP10_2AsManyClientsAsMayBe(t *testing.T) {
	noted, _ := doneBySome()
	for _, first := range []int64{1, 5, 6} {
		p := with(some(), func(p *api.Plot) { p.Sessions = clients(first, 64-int(first/6)) })
		for _, o := range noted {
			o.Seq = 11
			if o.Kind == api.OrMerge {
				o.Value = deed.Put(with(beside(), func(p *api.Plot) { p.Sessions = nil }))
			}
			q, r, _ := plot.Apply(p, o)
			if r.Code != api.ReOK || len(q.Sessions) != 64 {
				t.Errorf("%s: %s, %d sessions", show(o), show(r), len(q.Sessions))
			}
			if s, _ := session.Find(q.Sessions, 5); s.Seq != 11 || !same(s.Reply, r) {
				t.Errorf("%s: %s, %s", show(o), show(s), show(r))
			}
		}
	}
	// The merge itself leaves room for all but its own client.
	p := with(some(), func(p *api.Plot) { p.Sessions = clients(10, 32) })
	right := with(beside(), func(p *api.Plot) { p.Sessions = clients(42, 32) })
	stays(t, p, merge(deed.Put(right)), bad(api.ErrMany))
	right.Sessions = clients(42, 31)
	if q, r, f := plot.Apply(p, merge(deed.Put(right))); !r.Has || f.Eaten != 7 || len(q.Sessions) != 64 {
		t.Error(show(r), show(f), len(q.Sessions))
	}
}

// All that is noted may be: also the longest reply that there is.
func TestP10_2TheLongestReplies(t *testing.T) {
	members := []api.Member{{Node: 1, Id: maxId - 6}, {Node: 2, Id: maxId - 5}, {Node: 3, Id: maxId - 4}, {Node: 4, Id: maxId - 3}, {Node: 5, Id: maxId - 2}}
	p := api.Plot{Desc: api.Desc{Id: maxId - 2, Bound: api.Bound{From: a(33), To: "b" + a(32)}, Gen: maxId - 1, Members: members, Next: maxId}}
	o := ask(api.Order{Kind: api.OrSplit, Key: "aab" + a(29), Id: maxId})
	q, r, f := plot.Apply(p, o)
	if r.Code != api.ReOK || !f.Split || deed.Check(q) != api.OK || deed.Check(f.Right) != api.OK || len(r.Value) < 400 {
		t.Errorf("%s, %s", show(r), strconv.Itoa(len(r.Value)))
	}
	p = put(directory(), "\x02m", a(512))
	if q, r, _ := plot.Apply(p, ask(api.Order{Kind: api.OrSwap, Key: "\x02m", Value: "1"})); r.Value != a(512) || deed.Check(q) != api.OK {
		t.Error(show(r))
	}
}

// Of a reply of ReMoved nothing is remembered, so that the same order is done as
// soon as it comes where it belongs.
func TestP10_2WhatHasMovedIsNotNoted(t *testing.T) {
	p := with(some(), func(p *api.Plot) { p.Desc.Bound.To = "" })
	for _, o := range keyed() {
		o.To, o.Key = "", "b"
		if order.Check(o) != api.OK {
			t.Fatal(show(o))
		}
		q, r, _ := plot.Apply(p, o)
		if r.Code != api.ReMoved || r.Value != desc.Put(p.Desc) || !equal(p, q) {
			t.Errorf("%s: %s, %s", show(o), show(q), show(r))
		}
	}
}

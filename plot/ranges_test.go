package plot_test

import (
	"slices"
	"testing"

	"furlong/api"
	"furlong/deed"
	"furlong/desc"
)

func TestP10_2Split(t *testing.T) {
	members := some().Desc.Members
	for _, c := range []struct {
		key         string
		left, right []string
	}{
		{"c\x00", []string{"c"}, []string{"g", "m", "o\xff"}},
		{"g", []string{"c"}, []string{"g", "m", "o\xff"}},
		{"g\x00", []string{"c", "g"}, []string{"m", "o\xff"}},
		{"o\xff\xff", []string{"c", "g", "m", "o\xff"}, nil},
	} {
		for _, id := range []int64{5, 20, maxId} {
			left := api.Desc{Id: 4, Bound: api.Bound{From: "c", To: c.key}, Gen: 10, Members: members, Next: 8}
			right := api.Desc{Id: id, Bound: api.Bound{From: c.key, To: "p"}, Gen: 10, Members: members, Next: 8}
			r := api.Reply{Value: strand(desc.Put(left)) + strand(desc.Put(right))}
			o := ask(api.Order{Kind: api.OrSplit, Key: c.key, Id: id})
			for _, alloc := range []int64{0, 11} {
				p := with(some(), func(p *api.Plot) { p.Alloc = alloc })
				l := described(remembers(p, o, r), left)
				l.Pairs = pairs(c.left...)
				f := api.Effect{Split: true, Right: described(remembers(some(), o, r), right)}
				f.Right.Pairs = pairs(c.right...)
				applies(t, p, o, l, r, f)
			}
		}
	}
}

func TestP10_2SplitThatCannotBe(t *testing.T) {
	last := with(some(), func(p *api.Plot) { p.Desc.Gen = maxId })
	for _, c := range []struct {
		p    api.Plot
		key  string
		id   int64
		want api.Errno
	}{
		{some(), "c", 5, api.ErrBound}, {some(), "c", 4, api.ErrBound}, {last, "c", 5, api.ErrBound}, {last, "c", 3, api.ErrBound},
		{some(), "g", 4, api.ErrArg}, {some(), "g", 3, api.ErrArg}, {some(), "g", 2, api.ErrArg}, {last, "g", 4, api.ErrArg},
		{last, "g", 5, api.ErrDesc}, {last, "g", maxId, api.ErrDesc},
		{with(some(), func(p *api.Plot) { p.Desc.Id = maxId }), "g", maxId, api.ErrArg},
	} {
		changes(t, c.p, ask(api.Order{Kind: api.OrSplit, Key: c.key, Id: c.id}), c.p, bad(c.want))
	}
}

func TestP10_2Freeze(t *testing.T) {
	for _, p := range []api.Plot{
		some(), with(beside(), func(p *api.Plot) { p.Frozen = false }), with(some(), func(p *api.Plot) { p.Pairs, p.Sessions = nil, nil }),
		with(some(), func(p *api.Plot) { p.Sessions = clients(6, 64) }), with(some(), func(p *api.Plot) { p.Desc.Gen = maxId }),
		with(some(), func(p *api.Plot) { p.Desc.Bound.To = "" }), heavy(65535), heavy(65536),
	} {
		key := p.Desc.Bound.From
		o := ask(api.Order{Kind: api.OrFreeze, Key: key})
		applies(t, p, o, frozen(p), api.Reply{Value: deed.Put(frozen(p))}, api.Effect{})
		// Whoever freezes it again, is told the same.
		o.Client = 100
		stays(t, frozen(p), o, api.Reply{Value: deed.Put(frozen(p))})
	}
}

func TestP10_2FreezeThatCannotBe(t *testing.T) {
	for _, n := range []int{65537, 65538, 70000, 200000} {
		stays(t, heavy(n), ask(api.Order{Kind: api.OrFreeze, Key: "g"}), bad(api.ErrLong))
	}
	stays(t, first(), ask(api.Order{Kind: api.OrFreeze, Key: "g"}), bad(api.ErrArg))
	stays(t, directory(), ask(api.Order{Kind: api.OrFreeze, Key: "\x02m"}), bad(api.ErrArg))
	both := with(heavy(65600), func(p *api.Plot) { p.Desc.Bound.From = "" })
	stays(t, both, ask(api.Order{Kind: api.OrFreeze, Key: "g"}), bad(api.ErrArg))
	// Its number has no part.
	one := with(some(), func(p *api.Plot) { p.Desc.Id = 1 })
	applies(t, one, ask(api.Order{Kind: api.OrFreeze, Key: "g"}), frozen(one), api.Reply{Value: deed.Put(frozen(one))}, api.Effect{})
}

// merge is an order that a range be merged whose text this is.
func merge(text string) api.Order {
	return ask(api.Order{Kind: api.OrMerge, Key: "g", Value: text})
}

func TestP10_2Merge(t *testing.T) {
	want := api.Plot{
		Desc:  api.Desc{Id: 4, Bound: api.Bound{From: "c", To: "x"}, Gen: 21, Members: some().Desc.Members, Next: 8},
		Pairs: pairs("c", "g", "m", "o\xff", "p", "q", "w"),
		Sessions: []api.Session{
			{Client: 3, Seq: 6, Reply: api.Reply{Value: "later"}},
			{Client: 4, Seq: 2},
			{Client: 9, Seq: 1, Reply: bad(60)},
		},
		Eaten: []int64{5, 6, 7, 8, 12},
	}
	o := merge(deed.Put(beside()))
	r := api.Reply{Has: true, Value: desc.Put(want.Desc)}
	applies(t, some(), o, remembers(want, o, r), r, api.Effect{Eaten: 7})
	// The left one's Alloc is what stays.
	want.Alloc = 11
	applies(t, with(some(), func(p *api.Plot) { p.Alloc = 11 }), o, remembers(want, o, r), r, api.Effect{Eaten: 7})
}

// Whose session the merged one has brought, in which it has asked for something
// later, is told what came of the merge, and stays as late.
func TestP10_2MergeThatBringsALaterSession(t *testing.T) {
	for _, seq := range []int64{1, 2, 3} {
		mine := api.Session{Client: 5, Seq: 2, Reply: api.Reply{Value: "mine"}}
		right := with(beside(), func(p *api.Plot) { p.Sessions = []api.Session{mine} })
		o := merge(deed.Put(right))
		o.Seq = seq
		want, e := deed.Join(some(), right)
		if e != api.OK {
			t.Fatal(e)
		}
		r := api.Reply{Has: true, Value: desc.Put(want.Desc)}
		if seq > 1 {
			want.Sessions = []api.Session{some().Sessions[0], {Client: 5, Seq: seq, Reply: r}, some().Sessions[1]}
		}
		applies(t, some(), o, want, r, api.Effect{Eaten: 7})
	}
}

func TestP10_2MergeOfNoPlot(t *testing.T) {
	text := deed.Put(beside())
	for _, v := range []string{"x", ",", text[1:], text[:len(text)-1], text + "x", "0" + text, text + text, a(65536), desc.Put(beside().Desc), deed.Put(api.Plot{}),
		deed.Put(with(beside(), func(p *api.Plot) { p.Pairs[0].Key = "b" })), deed.Put(with(beside(), func(p *api.Plot) { p.Desc.Gen = 0 }))} {
		changes(t, some(), merge(v), some(), bad(api.ErrDeed))
	}
}

func TestP10_2MergeOfWhatWasMergedAlready(t *testing.T) {
	for _, l := range [][]int64{{7}, {6, 7, 8}, numbers(1, 200)} {
		p := with(some(), func(p *api.Plot) { p.Eaten = l })
		changes(t, p, merge(deed.Put(beside())), p, api.Reply{Value: desc.Put(p.Desc)})
		// Also if it does not lie beside it any more.
		p = with(p, func(p *api.Plot) { p.Desc.Bound.To = "x" })
		changes(t, p, merge(deed.Put(beside())), p, api.Reply{Value: desc.Put(p.Desc)})
	}
}

func TestP10_2MergeThatCannotBe(t *testing.T) {
	eaten := with(some(), func(p *api.Plot) { p.Eaten = []int64{7} })
	full := with(some(), func(p *api.Plot) { p.Eaten = numbers(100, 200) })
	for _, c := range []struct {
		p      api.Plot
		change func(p *api.Plot)
		want   api.Errno
	}{
		{some(), func(p *api.Plot) { p.Frozen = false }, api.ErrDeed},
		{eaten, func(p *api.Plot) { p.Frozen = false }, api.ErrDeed},
		{some(), func(p *api.Plot) { p.Desc.Bound = api.Bound{From: "q", To: "x"}; p.Pairs = pairs("q") }, api.ErrBound},
		{some(), func(p *api.Plot) { p.Desc.Bound = api.Bound{From: "a", To: "c"}; p.Pairs = nil }, api.ErrBound},
		{some(), func(p *api.Plot) { p.Desc.Bound = api.Bound{From: "c", To: "p"}; p.Pairs = nil }, api.ErrBound},
		{with(some(), func(p *api.Plot) { p.Desc.Bound.To = "" }), func(p *api.Plot) {}, api.ErrBound},
		{some(), func(p *api.Plot) { p.Desc.Id = 4 }, api.ErrArg},
		{some(), func(p *api.Plot) { p.Desc.Gen = maxId }, api.ErrDesc},
		{with(some(), func(p *api.Plot) { p.Desc.Gen = maxId }), func(p *api.Plot) {}, api.ErrDesc},
		{some(), func(p *api.Plot) { p.Sessions = clients(20, 63) }, api.ErrMany},
		{with(full, func(p *api.Plot) { p.Sessions = nil }), func(p *api.Plot) {}, api.ErrMany},
	} {
		changes(t, c.p, merge(deed.Put(with(beside(), c.change))), c.p, bad(c.want))
	}
}

func TestP10_2Add(t *testing.T) {
	for _, n := range []int{3, 4, 5, 6} {
		d := api.Desc{Id: 4, Bound: api.Bound{From: "c", To: "p"}, Gen: 10, Members: append(slices.Clone(some().Desc.Members), api.Member{Node: n, Id: 8}), Next: 9}
		changes(t, some(), ask(api.Order{Kind: api.OrAdd, Key: "c", Node: n}), described(some(), d), api.Reply{Value: desc.Put(d)})
	}
}

func TestP10_2AddThatCannotBe(t *testing.T) {
	full := with(some(), func(p *api.Plot) {
		p.Desc.Members = append(p.Desc.Members, api.Member{Node: 3, Id: 7}, api.Member{Node: 4, Id: 9})
		p.Desc.Next = 10
	})
	for _, c := range []struct {
		p    api.Plot
		node int
		want api.Errno
	}{
		{some(), 2, api.ErrThere}, {some(), 7, api.ErrThere}, {some(), 1, api.ErrThere}, {full, 3, api.ErrThere}, {full, 5, api.ErrMany}, {full, 6, api.ErrMany},
		{with(some(), func(p *api.Plot) { p.Desc.Gen = maxId }), 3, api.ErrDesc}, {with(some(), func(p *api.Plot) { p.Desc.Next = maxId }), 3, api.ErrDesc},
		{with(some(), func(p *api.Plot) { p.Desc.Gen = maxId }), 2, api.ErrThere},
	} {
		changes(t, c.p, ask(api.Order{Kind: api.OrAdd, Key: "g", Node: c.node}), c.p, bad(c.want))
	}
}

func TestP10_2Remove(t *testing.T) {
	for i, m := range some().Desc.Members {
		d := api.Desc{Id: 4, Bound: api.Bound{From: "c", To: "p"}, Gen: 10, Members: slices.Delete(slices.Clone(some().Desc.Members), i, i+1), Next: 8}
		changes(t, some(), ask(api.Order{Kind: api.OrRemove, Key: "g", Id: m.Id}), described(some(), d), api.Reply{Value: desc.Put(d)})
	}
}

func TestP10_2RemoveThatCannotBe(t *testing.T) {
	alone := with(some(), func(p *api.Plot) { p.Desc.Members = p.Desc.Members[1:2] })
	for _, c := range []struct {
		p    api.Plot
		id   int64
		want api.Errno
	}{
		{some(), 2, api.ErrNone}, {some(), 4, api.ErrNone}, {some(), 7, api.ErrNone}, {some(), 8, api.ErrNone}, {some(), maxId, api.ErrNone},
		{alone, 3, api.ErrArg}, {alone, 1, api.ErrNone}, {with(some(), func(p *api.Plot) { p.Desc.Gen = maxId }), 3, api.ErrDesc},
		{with(some(), func(p *api.Plot) { p.Desc.Gen = maxId }), 4, api.ErrNone},
	} {
		changes(t, c.p, ask(api.Order{Kind: api.OrRemove, Key: "g", Id: c.id}), c.p, bad(c.want))
	}
}

func TestP10_2Look(t *testing.T) {
	for _, p := range []api.Plot{some(), first(), with(some(), func(p *api.Plot) { p.Sessions, p.Pairs = clients(6, 64), nil })} {
		stays(t, p, ask(api.Order{Kind: api.OrLook, Key: "g"}), api.Reply{Value: desc.Put(p.Desc)})
		stays(t, frozen(p), ask(api.Order{Kind: api.OrLook, Key: "g"}), api.Reply{Has: true, Value: desc.Put(p.Desc)})
	}
}

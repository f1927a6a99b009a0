package plot_test

import (
	"math"
	"slices"
	"strings"

	"furlong/api"
	"furlong/deed"
	"furlong/desc"
)

// right are plots that may be, at the edges too.
func right() []api.Plot {
	l := []api.Plot{some(), first(), beside(), directory(), frozen(some()), frozen(directory()), heavy(65536), heavy(65537)}
	d, _ := desc.First(1, 2, 3)
	l = append(l, api.Plot{Desc: d, Alloc: 1})
	d, _ = desc.First(6)
	l = append(l, api.Plot{Desc: d, Alloc: maxId})
	add := func(change func(p *api.Plot)) {
		l = append(l, with(some(), change), with(first(), change), with(beside(), change))
	}
	add(func(p *api.Plot) { p.Frozen = false })
	add(func(p *api.Plot) { p.Pairs, p.Sessions, p.Eaten = nil, nil, nil })
	add(func(p *api.Plot) { p.Sessions = clients(5, 64) })
	add(func(p *api.Plot) { p.Sessions = clients(6, 64) })
	add(func(p *api.Plot) { p.Sessions = clients(6, 63) })
	add(func(p *api.Plot) { p.Desc.Gen, p.Frozen = maxId, false })
	add(func(p *api.Plot) { p.Desc.Next, p.Frozen = maxId, false })
	add(func(p *api.Plot) { p.Desc.Id = maxId })
	add(func(p *api.Plot) { p.Alloc = maxId })
	add(func(p *api.Plot) { p.Alloc = 0 })
	add(func(p *api.Plot) { p.Eaten = numbers(100, 200) })
	add(func(p *api.Plot) { p.Eaten = []int64{1, 7} })
	add(func(p *api.Plot) { p.Desc.Members, p.Frozen = p.Desc.Members[:1], false })
	add(func(p *api.Plot) { p.Desc.Bound.To, p.Frozen = "", false })
	return l
}

// wrong are plots that may not be.
func wrong() []api.Plot {
	l := []api.Plot{{}, {Frozen: true}, {Alloc: -1}}
	add := func(change func(p *api.Plot)) {
		l = append(l, with(some(), change), with(first(), change))
		l = append(l, frozen(with(some(), change)))
	}
	add(func(p *api.Plot) { p.Desc.Id = 0 })
	add(func(p *api.Plot) { p.Desc.Id = math.MaxInt64 })
	add(func(p *api.Plot) { p.Desc.Gen = -1 })
	add(func(p *api.Plot) { p.Desc.Gen = math.MaxInt64 })
	add(func(p *api.Plot) { p.Desc.Next = math.MinInt64 })
	add(func(p *api.Plot) { p.Desc.Members = nil })
	add(func(p *api.Plot) { p.Desc.Members = slices.Repeat([]api.Member{{Node: -3, Id: -3}}, 20) })
	add(func(p *api.Plot) { p.Desc.Bound = api.Bound{From: "p", To: "c"} })
	add(func(p *api.Plot) { p.Desc.Bound = api.Bound{From: "c", To: "c"} })
	add(func(p *api.Plot) { p.Desc.Bound = api.Bound{From: a(1000), To: "x"} })
	add(func(p *api.Plot) { p.Desc.Bound.To = "z" + a(1000) })
	add(func(p *api.Plot) { slices.Reverse(p.Pairs) })
	add(func(p *api.Plot) { p.Pairs = slices.Repeat(pairs("g"), 3) })
	add(func(p *api.Plot) { p.Pairs = pairs("", "b", "z", "d"+a(100)) })
	add(func(p *api.Plot) { p.Pairs = []api.Pair{{Key: "g", Value: a(100000)}} })
	add(func(p *api.Plot) { p.Pairs = make([]api.Pair, 200) })
	add(func(p *api.Plot) { p.Sessions = make([]api.Session, 100) })
	add(func(p *api.Plot) { p.Sessions = clients(1, 100) })
	add(func(p *api.Plot) { p.Sessions = clients(-50, 100) })
	add(func(p *api.Plot) { slices.Reverse(p.Sessions) })
	add(func(p *api.Plot) { p.Sessions = slices.Repeat(p.Sessions[:1], 5) })
	add(func(p *api.Plot) { p.Sessions[0].Reply = api.Reply{Code: -1, Err: -1, Pairs: pairs("", "x")} })
	add(func(p *api.Plot) { p.Eaten = []int64{9, 7, 7, -1} })
	add(func(p *api.Plot) { p.Eaten = numbers(-100, 300) })
	add(func(p *api.Plot) { p.Alloc = -1 })
	add(func(p *api.Plot) { p.Alloc = maxId + 1 })
	add(func(p *api.Plot) { p.Alloc = math.MaxInt64 })
	add(func(p *api.Plot) { p.Alloc = math.MinInt64 })
	return l
}

// spots are keys below, in, at the ends of and above the plots of right.
func spots() []string {
	return []string{"\x00", "\x01\x03", "\x02m", "\x03", "b", "c", "c\x00", "g", "h", "m", "o\xff", "o\xff\xff", "p", "p\x00", "q", "x", "z", strings.Repeat("\xff", 32)}
}

// asks are orders that may be, of each kind, all by the client 5.
func asks() []api.Order {
	var l []api.Order
	add := func(o api.Order) { l = append(l, ask(o)) }
	add(api.Order{Kind: api.OrAlloc})
	for _, k := range spots() {
		add(api.Order{Kind: api.OrGet, Key: k})
		add(api.Order{Kind: api.OrPut, Key: k, Value: "new"})
		add(api.Order{Kind: api.OrPut, Key: k})
		add(api.Order{Kind: api.OrDel, Key: k})
		add(api.Order{Kind: api.OrSwap, Key: k, Value: "new"})
		add(api.Order{Kind: api.OrSwap, Key: k, Value: "new", Old: "v" + k[:min(len(k), 10)], Has: true})
		add(api.Order{Kind: api.OrSwap, Key: k, Value: "new", Old: "other", Has: true})
		add(api.Order{Kind: api.OrSwap, Key: k, Value: "new", Has: true})
		add(api.Order{Kind: api.OrFreeze, Key: k})
		add(api.Order{Kind: api.OrLook, Key: k})
		for _, limit := range []int{1, 2, 4, 100} {
			add(api.Order{Kind: api.OrScan, Key: k, Limit: limit})
			add(api.Order{Kind: api.OrScan, Key: k, To: k + "\x00", Limit: limit})
			add(api.Order{Kind: api.OrScan, Limit: limit})
			for _, to := range []string{"o", "p", "p\x00", "x", "z"} {
				if k < to {
					add(api.Order{Kind: api.OrScan, Key: k, To: to, Limit: limit})
				}
			}
		}
		if k[0] >= 2 {
			add(api.Order{Kind: api.OrSplit, Key: k, Id: 2})
			add(api.Order{Kind: api.OrSplit, Key: k, Id: 20})
			add(api.Order{Kind: api.OrSplit, Key: k, Id: maxId})
		}
		for _, n := range []int{1, 3, 7} {
			add(api.Order{Kind: api.OrAdd, Key: k, Node: n})
			add(api.Order{Kind: api.OrRemove, Key: k, Id: int64(n)})
		}
		for _, v := range cargos() {
			add(api.Order{Kind: api.OrMerge, Key: k, Value: v})
		}
	}
	for level := 1; level <= 2; level++ {
		for _, to := range []string{"", "b", "m", "t", "\x03", a(31), a(32), a(33)} {
			for _, gen := range []int64{1, 2, 5, maxId} {
				add(api.Order{Kind: api.OrMeta, Value: record("", to, gen), Limit: level})
			}
		}
	}
	return l
}

// cargos are what a merge may bring: the text of a plot that may be joined to
// some, or to first, and of others.
func cargos() []string {
	l := []string{"x", "0:,"}
	add := func(change func(p *api.Plot)) { l = append(l, deed.Put(with(beside(), change))) }
	add(func(p *api.Plot) {})
	add(func(p *api.Plot) { p.Frozen = false })
	add(func(p *api.Plot) { p.Desc.Id = 4 })
	add(func(p *api.Plot) { p.Desc.Id = 6 })
	add(func(p *api.Plot) { p.Desc.Gen = maxId })
	add(func(p *api.Plot) { p.Desc.Bound = api.Bound{From: "x", To: "z"}; p.Pairs = nil })
	add(func(p *api.Plot) { p.Sessions = clients(20, 63) })
	add(func(p *api.Plot) { p.Eaten = numbers(100, 198) })
	return l
}

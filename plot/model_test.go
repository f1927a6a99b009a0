package plot_test

import (
	"testing"

	"furlong/api"
	"furlong/bound"
	"furlong/deed"
	"furlong/desc"
	"furlong/order"
	"furlong/plot"
)

// model is what the chapter says of Apply, in its own order, of plots that may
// be.
func model(p api.Plot, o api.Order) (api.Plot, api.Reply, api.Effect) {
	none := api.Effect{}
	if order.Check(o) != api.OK {
		return p, bad(api.ErrOrder), none
	}
	if o.Kind == api.OrNone {
		return p, api.Reply{}, none
	}
	for _, s := range p.Sessions {
		if s.Client == o.Client && s.Seq == o.Seq {
			return p, s.Reply, none
		}
		if s.Client == o.Client && s.Seq > o.Seq {
			return p, api.Reply{Code: api.ReOld}, none
		}
	}
	keyed := o.Kind != api.OrAlloc && o.Kind != api.OrMeta
	if keyed && !bound.Has(p.Desc.Bound, o.Key) {
		return p, moved(p), none
	}
	if p.Frozen {
		switch o.Kind {
		case api.OrFreeze:
			return p, api.Reply{Value: deed.Put(p)}, none
		case api.OrLook:
			return p, api.Reply{Has: true, Value: desc.Put(p.Desc)}, none
		}
		return p, api.Reply{Code: api.ReFrozen, Value: desc.Put(p.Desc)}, none
	}
	q, r, f := row(p, o)
	if order.Reads(o.Kind) || r.Code == api.ReMoved {
		return q, r, f
	}
	known := false
	for _, s := range p.Sessions {
		known = known || s.Client == o.Client
	}
	if !known && len(q.Sessions) >= 64 {
		return p, bad(api.ErrMany), none
	}
	if f.Split {
		f.Right = remembers(f.Right, o, r)
	}
	return remembers(q, o, r), r, f
}

// row is what the table says of o.
func row(p api.Plot, o api.Order) (api.Plot, api.Reply, api.Effect) {
	none := api.Effect{}
	value, there := "", false
	for _, x := range p.Pairs {
		if x.Key == o.Key {
			value, there = x.Value, true
		}
	}
	switch o.Kind {
	case api.OrGet:
		return p, api.Reply{Has: there, Value: value}, none
	case api.OrPut:
		return put(p, o.Key, o.Value), api.Reply{}, none
	case api.OrDel:
		return gone(p, o.Key), api.Reply{Has: there}, none
	case api.OrSwap:
		if o.Has && there && o.Old == value || !o.Has && !there {
			return put(p, o.Key, o.Value), api.Reply{Has: true}, none
		}
		return p, api.Reply{Value: value}, none
	case api.OrScan:
		return p, scanned(p, o), none
	case api.OrLook:
		return p, api.Reply{Value: desc.Put(p.Desc)}, none
	case api.OrAlloc:
		if p.Desc.Bound.From != "" {
			return p, moved(p), none
		}
		if p.Alloc == maxId {
			return p, bad(api.ErrMany), none
		}
		p.Alloc++
		return p, api.Reply{Value: num(p.Alloc)}, none
	case api.OrMeta:
		q, r := told(p, o)
		return q, r, none
	}
	return rangeRow(p, o)
}

// scanned is what the table says of a scan.
func scanned(p api.Plot, o api.Order) api.Reply {
	var r api.Reply
	for _, x := range p.Pairs {
		if x.Key < o.Key || o.To != "" && x.Key >= o.To {
			continue
		}
		if len(r.Pairs) == o.Limit {
			r.Value = x.Key
			return r
		}
		r.Pairs = append(r.Pairs, x)
	}
	end := p.Desc.Bound.To
	if end != "" && (o.To == "" || end < o.To) {
		r.Value = end
	}
	return r
}

// told is what the table says of a record of the directory.
func told(p api.Plot, o api.Order) (api.Plot, api.Reply) {
	d, _ := desc.Parse(o.Value)
	key := string([]byte{byte(o.Limit)}) + d.Bound.To
	if d.Bound.To == "" {
		key += string([]byte{255, 255, 255, 255, 255, 255, 255, 255, 255, 255, 255, 255, 255, 255, 255, 255, 255, 255, 255, 255, 255, 255, 255, 255, 255, 255, 255, 255, 255, 255, 255})
	}
	if len(key) > 32 {
		return p, bad(api.ErrLong)
	}
	if key < p.Desc.Bound.From || p.Desc.Bound.To != "" && key >= p.Desc.Bound.To {
		return p, moved(p)
	}
	for _, x := range p.Pairs {
		if x.Key == key {
			old, e := desc.Parse(x.Value)
			if e == api.OK && old.Gen >= d.Gen {
				return p, api.Reply{}
			}
		}
	}
	return put(p, key, o.Value), api.Reply{Has: true}
}

// rangeRow is what the table says of orders that change the range.
func rangeRow(p api.Plot, o api.Order) (api.Plot, api.Reply, api.Effect) {
	none := api.Effect{}
	switch o.Kind {
	case api.OrSplit:
		l, r, e := deed.Cut(p, o.Key, o.Id)
		if e != api.OK {
			return p, bad(e), none
		}
		return l, api.Reply{Value: strand(desc.Put(l.Desc)) + strand(desc.Put(r.Desc))}, api.Effect{Split: true, Right: r}
	case api.OrFreeze:
		if p.Desc.Bound.From == "" {
			return p, bad(api.ErrArg), none
		}
		q := frozen(p)
		if len(deed.Put(q)) > 65536 {
			return p, bad(api.ErrLong), none
		}
		return q, api.Reply{Value: deed.Put(q)}, none
	case api.OrMerge:
		right, e := deed.Parse(o.Value)
		if e != api.OK {
			return p, bad(api.ErrDeed), none
		}
		q, e := deed.Join(p, right)
		if e == api.ErrThere {
			return p, api.Reply{Value: desc.Put(p.Desc)}, none
		}
		if e != api.OK {
			return p, bad(e), none
		}
		return q, api.Reply{Has: true, Value: desc.Put(q.Desc)}, api.Effect{Eaten: right.Desc.Id}
	}
	d, e := desc.Add(p.Desc, o.Node)
	if o.Kind == api.OrRemove {
		d, e = desc.Remove(p.Desc, o.Id)
	}
	if e != api.OK {
		return p, bad(e), none
	}
	return described(p, d), api.Reply{Value: desc.Put(d)}, none
}

func TestP10_2AllOrdersOfAllPlots(t *testing.T) {
	codes := map[int]int{}
	for i, p := range right() {
		if deed.Check(p) != api.OK {
			t.Fatalf("plot %d may not be: %s", i, show(p))
		}
		in := roomy(p)
		for _, o := range asks() {
			if order.Check(o) != api.OK {
				t.Fatalf("%s may not be", show(o))
			}
			q, r, f := plot.Apply(in, o)
			wantQ, wantR, wantF := model(p, o)
			if !equal(q, wantQ) || !same(r, wantR) || !alike(f, wantF) {
				t.Fatalf("%s of %s:\n%s %s %s, not\n%s %s %s", show(o), show(p), show(q), show(r), show(f), show(wantQ), show(wantR), show(wantF))
			}
			codes[r.Code*1000+int(r.Err)]++
		}
		untouched(t, in, p)
	}
	for _, want := range []int{0, 1000, 2000, 3000, 4001, 4002, 4006, 4007, 4008, 4020, 4060, 4090} {
		if codes[want] == 0 {
			t.Errorf("no reply %d, of %v", want, codes)
		}
	}
}

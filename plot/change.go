package plot

import (
	"furlong/api"
	"furlong/bound"
	"furlong/deed"
	"furlong/desc"
	"furlong/knot"
)

// scan is the pairs that o asks for, and the key from which on it may be gone on
// with, in p or elsewhere.
func scan(p api.Plot, o api.Order) api.Reply {
	pairs, next := deed.Scan(p, o.Key, o.To, o.Limit)
	end := p.Desc.Bound.To
	// If p's bound has no end, that is "", and nothing is left elsewhere.
	if next == "" && (o.To == "" || o.To > end) {
		next = end
	}
	return api.Reply{Pairs: pairs, Value: next}
}

// alloc gives away the next range's number.
func alloc(p api.Plot) outcome {
	// By one range alone, so that no number is given away twice.
	if p.Desc.Bound.From != "" {
		return outcome{plot: p, reply: moved(p)}
	}
	if p.Alloc >= api.MaxId {
		return failed(p, api.ErrMany)
	}
	p.Alloc++
	return outcome{plot: p, reply: api.Reply{Value: knot.Num(p.Alloc)}}
}

// meta has o's Value stand in the directory, if p has that place, and nothing as
// new stands there.
func meta(p api.Plot, o api.Order) outcome {
	d, _ := desc.Parse(o.Value)
	key := bound.Meta(o.Limit, d.Bound.To)
	if bound.Key(key) != api.OK {
		return failed(p, api.ErrLong)
	}
	if !bound.Has(p.Desc.Bound, key) {
		return outcome{plot: p, reply: moved(p)}
	}
	old, _ := deed.Get(p, key)
	if !isOlder(old, d.Gen) {
		return outcome{plot: p}
	}
	p = deed.Set(p, api.Change{Key: key, Value: o.Value})
	return outcome{plot: p, reply: api.Reply{Has: true}}
}

// isOlder is whether text tells of no generation from gen on: also if it is no
// descriptor's, as "" is none's.
func isOlder(text string, gen int64) bool {
	d, e := desc.Parse(text)
	return e != api.OK || d.Gen < gen
}

// split is p up to o's Key, and a new range from there on.
func split(p api.Plot, o api.Order) outcome {
	left, right, e := deed.Cut(p, o.Key, o.Id)
	if e != api.OK {
		return failed(p, e)
	}
	return outcome{
		plot:   left,
		reply:  api.Reply{Value: knot.Tie(desc.Put(left.Desc), desc.Put(right.Desc))},
		effect: api.Effect{Split: true, Right: right},
	}
}

// freeze is p, to which nothing is done any more, and all that it is, for the
// range to its left.
func freeze(p api.Plot) outcome {
	if p.Desc.Bound.From == "" {
		return failed(p, api.ErrArg)
	}
	now := p
	now.Frozen = true
	text := deed.Put(now)
	// No order could bring more than that to the left one.
	if len(text) > api.MaxCargo {
		return failed(p, api.ErrLong)
	}
	return outcome{plot: now, reply: api.Reply{Value: text}}
}

// merge is p with the range whose text this is at its right end.
func merge(p api.Plot, text string) outcome {
	right, e := deed.Parse(text)
	if e != api.OK {
		return failed(p, api.ErrDeed)
	}
	all, e := deed.Join(p, right)
	if e == api.ErrThere {
		// Somebody else has brought it here already: that is just as well.
		return outcome{plot: p, reply: api.Reply{Value: desc.Put(p.Desc)}}
	}
	if e != api.OK {
		return failed(p, e)
	}
	return outcome{
		plot:   all,
		reply:  api.Reply{Has: true, Value: desc.Put(all.Desc)},
		effect: api.Effect{Eaten: right.Desc.Id},
	}
}

// became is p with the descriptor d; e, if that could not be made.
func became(p api.Plot, d api.Desc, e api.Errno) outcome {
	if e != api.OK {
		return failed(p, e)
	}
	p.Desc = d
	return outcome{plot: p, reply: api.Reply{Value: desc.Put(d)}}
}

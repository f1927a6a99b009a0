package deed

import (
	"furlong/api"
	"furlong/desc"
	"furlong/knot"
	"furlong/session"
	"furlong/strand"
)

const (
	plotStrands = 6
	pairStrands = 2

	markFrozen = "1"
	markOpen   = "0"
)

// Put is p's text.
func Put(p api.Plot) string {
	mark := markOpen
	if p.Frozen {
		mark = markFrozen
	}
	return knot.Tie(
		desc.Put(p.Desc), pairsText(p.Pairs), session.Put(p.Sessions),
		mark, eatenText(p.Eaten), knot.Num(p.Alloc),
	)
}

// Parse is the plot that may be, and whose text s is.
func Parse(s string) (api.Plot, api.Errno) {
	// Pairs may be so many, and so long, that Untie would not take them.
	parts, _ := strand.All(s)
	if len(parts) != plotStrands {
		return api.Plot{}, api.ErrDeed
	}
	d, e := desc.Parse(parts[0])
	if e != api.OK {
		return api.Plot{}, api.ErrDeed
	}
	l, e := session.Parse(parts[2])
	if e != api.OK {
		return api.Plot{}, api.ErrDeed
	}
	p := api.Plot{
		Desc:     d,
		Pairs:    readPairs(parts[1]),
		Sessions: l,
		Frozen:   parts[3] == markFrozen,
		Eaten:    readEaten(parts[4]),
		Alloc:    number(parts[5]),
	}
	// What was read of a part that says something else has another text.
	if Check(p) != api.OK || Put(p) != s {
		return api.Plot{}, api.ErrDeed
	}
	return p, api.OK
}

// pairsText is the text of pairs.
func pairsText(l []api.Pair) string {
	parts := make([]string, 0, len(l)*pairStrands)
	for _, p := range l {
		parts = append(parts, p.Key, p.Value)
	}
	return knot.Tie(parts...)
}

// readPairs is the pairs whose text s is, as far as they are whole.
func readPairs(s string) []api.Pair {
	parts, _ := strand.All(s)
	var l []api.Pair
	for i := range len(parts) / pairStrands {
		at := i * pairStrands
		l = append(l, api.Pair{Key: parts[at], Value: parts[at+1]})
	}
	return l
}

// eatenText is the text of the numbers of the ranges that one has eaten.
func eatenText(l []int64) string {
	parts := make([]string, 0, len(l))
	for _, id := range l {
		parts = append(parts, knot.Num(id))
	}
	return knot.Tie(parts...)
}

// readEaten is the numbers of ranges whose text s may be.
func readEaten(s string) []int64 {
	parts, _ := strand.All(s)
	var l []int64
	for _, text := range parts {
		l = append(l, number(text))
	}
	return l
}

// number is the number whose text this is. If it is none's, it is 0, whose text
// is another one.
func number(text string) int64 {
	n, _ := knot.Int(text)
	return n
}

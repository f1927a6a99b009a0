package deed

import (
	"strings"

	"furlong/api"
	"furlong/desc"
	"furlong/knot"
	"furlong/session"
)

const (
	plotStrands = 6
	pairStrands = 2

	markFrozen = "1"
	markOpen   = "0"
)

// Put is p's text.
func Put(p api.Plot) string {
	mark := markOpen
	if p.Frozen {
		mark = markFrozen
	}
	return knot.Tie(
		desc.Put(p.Desc), pairsText(p.Pairs), session.Put(p.Sessions),
		mark, eatenText(p.Eaten), knot.Num(p.Alloc),
	)
}

// Parse is the plot that may be, and whose text s is.
func Parse(s string) (api.Plot, api.Errno) {
	parts := strands(s)
	if len(parts) != plotStrands {
		return api.Plot{}, api.ErrDeed
	}
	d, e := desc.Parse(parts[0])
	if e != api.OK {
		return api.Plot{}, api.ErrDeed
	}
	l, e := session.Parse(parts[2])
	if e != api.OK {
		return api.Plot{}, api.ErrDeed
	}
	p := api.Plot{
		Desc:     d,
		Pairs:    readPairs(parts[1]),
		Sessions: l,
		Frozen:   parts[3] == markFrozen,
		Eaten:    readEaten(parts[4]),
		Alloc:    number(parts[5]),
	}
	// What was read of a part that says something else has another text.
	if Check(p) != api.OK || Put(p) != s {
		return api.Plot{}, api.ErrDeed
	}
	return p, api.OK
}

// pairsText is the text of pairs.
func pairsText(l []api.Pair) string {
	parts := make([]string, 0, len(l)*pairStrands)
	for _, p := range l {
		parts = append(parts, p.Key, p.Value)
	}
	return knot.Tie(parts...)
}

// readPairs is the pairs whose text s is, as far as they are whole.
func readPairs(s string) []api.Pair {
	parts := strands(s)
	var l []api.Pair
	for i := range len(parts) / pairStrands {
		at := i * pairStrands
		l = append(l, api.Pair{Key: parts[at], Value: parts[at+1]})
	}
	return l
}

// eatenText is the text of the numbers of the ranges that one has eaten.
func eatenText(l []int64) string {
	parts := make([]string, 0, len(l))
	for _, id := range l {
		parts = append(parts, knot.Num(id))
	}
	return knot.Tie(parts...)
}

// readEaten is the numbers of ranges whose text s is, as far as it goes.
func readEaten(s string) []int64 {
	var l []int64
	for _, text := range strands(s) {
		l = append(l, number(text))
	}
	return l
}

// strands is the texts whose strands s has, up to where there is none: a plot's
// pairs may be more, and longer, than those of a knot that Untie takes.
func strands(s string) []string {
	var l []string
	for {
		digits, behind, _ := strings.Cut(s, ":")
		n, e := knot.Int(digits)
		if e != api.OK || n < 0 || n >= int64(len(behind)) {
			return l
		}
		l = append(l, behind[:n])
		s = behind[n+1:]
	}
}

// number is the number whose text this is. If it is none's, it is 0, whose text
// is another one.
func number(text string) int64 {
	n, _ := knot.Int(text)
	return n
}

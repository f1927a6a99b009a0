package desc

import (
	"slices"

	"furlong/api"
	"furlong/knot"
)

const (
	headStrands   = 5 // ahead of a text's members
	memberStrands = 2
)

// Put is d's text.
func Put(d api.Desc) string {
	parts := []string{knot.Num(d.Id), d.Bound.From, d.Bound.To, knot.Num(d.Gen), knot.Num(d.Next)}
	for _, m := range d.Members {
		parts = append(parts, knot.Num(int64(m.Node)), knot.Num(m.Id))
	}
	return knot.Tie(parts...)
}

// Parse is the descriptor that may be, and whose text s is.
func Parse(s string) (api.Desc, api.Errno) {
	parts, e := knot.Untie(s)
	if e != api.OK || len(parts) < headStrands {
		return api.Desc{}, api.ErrDesc
	}
	head, ok := numbers(parts[0], parts[3], parts[4])
	if !ok {
		return api.Desc{}, api.ErrDesc
	}
	l, ok := members(parts[headStrands:]...)
	if !ok {
		return api.Desc{}, api.ErrDesc
	}
	return checked(api.Desc{
		Id:      head[0],
		Bound:   api.Bound{From: parts[1], To: parts[2]},
		Gen:     head[1],
		Members: l,
		Next:    head[2],
	})
}

// members is the members whose strands these texts are, a node and a number of
// each; false, if there are none such.
func members(texts ...string) ([]api.Member, bool) {
	tail, ok := numbers(texts...)
	if !ok || len(tail)%memberStrands != 0 {
		return nil, false
	}
	var l []api.Member
	for pair := range slices.Chunk(tail, memberStrands) {
		// Asked ahead of making an int of it, which may be too small for it.
		if !isNode(pair[0]) {
			return nil, false
		}
		l = append(l, api.Member{Node: int(pair[0]), Id: pair[1]})
	}
	return l, true
}

// numbers is the numbers whose texts these are; false, if one of them is none.
func numbers(texts ...string) ([]int64, bool) {
	l := make([]int64, 0, len(texts))
	for _, text := range texts {
		n, e := knot.Int(text)
		if e != api.OK {
			return nil, false
		}
		l = append(l, n)
	}
	return l, true
}

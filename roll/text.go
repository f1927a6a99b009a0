package roll

import (
	"slices"

	"furlong/api"
	"furlong/knot"
	"furlong/strand"
)

const (
	// baseStrands are those of a roll's base, ahead of its entries.
	baseStrands  = 2
	entryStrands = 2
)

// Put is r's text.
func Put(r api.Roll) string {
	parts := []string{knot.Num(r.Base), knot.Num(r.BaseTerm)}
	for _, e := range r.Entries {
		parts = append(parts, knot.Num(e.Term), e.Text)
	}
	return knot.Tie(parts...)
}

// Parse is the roll that may be, and whose text s is.
func Parse(s string) (api.Roll, api.Errno) {
	// Entries may be so many, and so long, that Untie would not take them.
	parts, whole := strand.All(s)
	if !whole || len(parts) < baseStrands || (len(parts)-baseStrands)%entryStrands != 0 {
		return api.Roll{}, api.ErrRoll
	}
	r := api.Roll{Base: number(parts[0]), BaseTerm: number(parts[1])}
	for piece := range slices.Chunk(parts[baseStrands:], entryStrands) {
		r.Entries = append(r.Entries, api.Entry{Term: number(piece[0]), Text: piece[1]})
	}
	if Check(r) != api.OK {
		return api.Roll{}, api.ErrRoll
	}
	return r, api.OK
}

// number is the number whose text this is. If it is none's, it is -1, which no
// index and no term is.
func number(text string) int64 {
	n, e := knot.Int(text)
	if e != api.OK {
		return -1
	}
	return n
}

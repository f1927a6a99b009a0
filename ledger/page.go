package ledger

import (
	"furlong/api"
	"furlong/knot"
)

const (
	kindBase   = "base"
	kindRecord = "rec"

	mostText = 1 << 19 // bytes of a record, and of a base

	noEpoch    = 0
	firstEpoch = 1
	lastEpoch  = 1 << 62
)

// page is a base, with its epoch, or a record, with its number.
type page struct {
	kind   string
	number int64
	text   string
}

// bytes is how a page stands on a tape.
func (p page) bytes() string {
	return knot.Tie(knot.Seal(knot.Tie(p.kind, knot.Num(p.number), p.text)))
}

// begins is whether a tape that is right may begin with p.
func (p page) begins() bool {
	return p.kind == kindBase && firstEpoch <= p.number && p.number <= lastEpoch
}

// follows is whether p may stand behind so many records.
func (p page) follows(records int64) bool {
	return p.kind == kindRecord && p.number == records+1
}

// first is the page with which s begins, and what stands behind it; false, if
// it begins with none that is whole.
func first(s string) (page, string, bool) {
	sealed, behind, e := knot.First(s)
	if e != api.OK {
		return page{}, "", false
	}
	tied, e := knot.Open(sealed)
	if e != api.OK {
		return page{}, "", false
	}
	parts, e := knot.Untie(tied)
	if e != api.OK || len(parts) != 3 {
		return page{}, "", false
	}
	number, e := knot.Int(parts[1])
	if e != api.OK || len(parts[2]) > mostText {
		return page{}, "", false
	}
	return page{parts[0], number, parts[2]}, behind, true
}

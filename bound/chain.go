package bound

import "furlong/api"

// Next is whether b begins where a ends.
func Next(a, b api.Bound) bool {
	return both(a, b) && a.To != "" && b.From == a.To
}

// Join is the bound of what lies in a or b, which are neighbours.
func Join(a, b api.Bound) (api.Bound, api.Errno) {
	if !Next(a, b) {
		return api.Bound{}, api.ErrBound
	}
	return api.Bound{From: a.From, To: b.To}, api.OK
}

// Cut is what lies in b below k, and from k on.
func Cut(b api.Bound, k string) (api.Bound, api.Bound, api.Errno) {
	if Check(b) != api.OK || Key(k) != api.OK || !Has(b, k) || k == b.From {
		return api.Bound{}, api.Bound{}, api.ErrBound
	}
	return api.Bound{From: b.From, To: k}, api.Bound{From: k, To: b.To}, api.OK
}

// Whole is whether the bounds, each Next to the one behind it, hold all texts.
func Whole(l ...api.Bound) bool {
	from, end := "", 0
chain:
	for i, b := range l {
		switch {
		case Check(b) != api.OK || b.From != from:
			break chain
		case b.To == "":
			// The chain ends here, whatever stands behind: it is whole only if
			// nothing does.
			end = i + 1
			break chain
		default:
			from = b.To
		}
	}
	return end > 0 && end == len(l)
}

package order

import (
	"slices"

	"furlong/api"
	"furlong/bound"
)

// mostErr is the greatest number of an error that a reply may tell.
const mostErr = 999

// CheckReply is whether r may be.
func CheckReply(r api.Reply) api.Errno {
	if !among(int64(r.Code), api.ReOK, api.MaxCode) || !tells(r.Code, r.Err) {
		return api.ErrOrder
	}
	if len(r.Value) > api.MaxCargo || len(r.Pairs) > api.MaxLimit {
		return api.ErrOrder
	}
	for _, p := range r.Pairs {
		if bound.Key(p.Key) != api.OK || len(p.Value) > api.MaxRecord {
			return api.ErrOrder
		}
	}
	return api.OK
}

// tells is whether a reply with this code may tell the error e.
func tells(code int, e api.Errno) bool {
	if code == api.ReBad {
		return among(int64(e), 1, mostErr)
	}
	return e == api.OK
}

// Same is whether a and b are the same, pair by pair.
func Same(a, b api.Reply) bool {
	if a.Code != b.Code || a.Err != b.Err || a.Has != b.Has || a.Value != b.Value {
		return false
	}
	return slices.Equal(a.Pairs, b.Pairs)
}

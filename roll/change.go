package roll

import "furlong/api"

// Append is r with l behind all entries.
func Append(r api.Roll, l ...api.Entry) api.Roll {
	r.Entries = append(upTo(r, len(r.Entries)).Entries, l...)
	return r
}

// Merge is r with l behind index, and true; r and false, if it has not that term
// at index.
func Merge(r api.Roll, index, term int64, l []api.Entry) (api.Roll, bool) {
	if t, there := Term(r, index); !there || t != term {
		return upTo(r, len(r.Entries)), false
	}
	at := int(index - r.Base)
	known := alike(r.Entries[at:], l)
	if known == len(l) {
		// What stands behind l may have come from the same leader later on.
		return upTo(r, len(r.Entries)), true
	}
	return Append(upTo(r, at+known), l[known:]...), true
}

// alike is how many entries a and b have in common, from the first one on: what
// was written in one term at one index is the same everywhere.
func alike(a, b []api.Entry) int {
	n := 0
	for n < len(a) && n < len(b) && a[n].Term == b[n].Term {
		n++
	}
	return n
}

// Compact is r without the entries up to to.
func Compact(r api.Roll, to int64) api.Roll {
	at, there := place(r, to)
	if !there {
		return upTo(r, len(r.Entries))
	}
	// In room of their own, so that nothing holds what went any more.
	return Append(api.Roll{Base: to, BaseTerm: r.Entries[at].Term}, r.Entries[at+1:]...)
}

// upTo is r's first n entries alone. It has no room behind them, as other rolls
// may have something there.
func upTo(r api.Roll, n int) api.Roll {
	r.Entries = r.Entries[:n:n]
	return r
}

package session

import (
	"iter"

	"furlong/api"
)

// Note is l with s in the place of its client's session, if that is not a later
// one.
func Note(l []api.Session, s api.Session) ([]api.Session, api.Errno) {
	alone := []api.Session{s}
	if Check(alone) != api.OK {
		return nil, api.ErrSession
	}
	// Ahead of l, since s is taken also where both have the same Seq.
	return Merge(alone, l)
}

// Merge is each client's later session in a and b; that in a, if both have the
// same Seq.
func Merge(a, b []api.Session) ([]api.Session, api.Errno) {
	var l []api.Session
	for s := range both(a, b) {
		if len(l) == api.MaxClients {
			return nil, api.ErrMany
		}
		l = append(l, own(s))
	}
	return l, api.OK
}

// both hands over, by rising clients, each one's later session in a and b.
func both(a, b []api.Session) iter.Seq[api.Session] {
	return func(yield func(api.Session) bool) {
		i, j := 0, 0
		for i < len(a) || j < len(b) {
			var s api.Session
			switch {
			case j == len(b) || i < len(a) && a[i].Client < b[j].Client:
				s = a[i]
				i++
			case i == len(a) || b[j].Client < a[i].Client:
				s = b[j]
				j++
			default:
				s = later(a[i], b[j])
				i++
				j++
			}
			if !yield(s) {
				return
			}
		}
	}
}

// later is which of a client's two sessions is the later one; a, if none is.
func later(a, b api.Session) api.Session {
	if a.Seq < b.Seq {
		return b
	}
	return a
}

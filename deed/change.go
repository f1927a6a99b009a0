package deed

import (
	"slices"

	"furlong/api"
	"furlong/desc"
	"furlong/session"
)

// Cut is p up to key, and a new range with the number id from key on.
func Cut(p api.Plot, key string, id int64) (api.Plot, api.Plot, api.Errno) {
	if p.Frozen {
		return api.Plot{}, api.Plot{}, api.ErrDeed
	}
	left, right, e := desc.Split(p.Desc, key, id)
	if e != api.OK {
		return api.Plot{}, api.Plot{}, e
	}
	at := place(p.Pairs, key)
	// Both remember what was asked of p, for a client that asks again may come
	// to either of them.
	l, r := p, p
	l.Desc, l.Pairs = left, p.Pairs[:at]
	r.Desc, r.Pairs = right, p.Pairs[at:]
	// Ranges' numbers are given away by one range alone.
	r.Alloc = 0
	return own(l), own(r), api.OK
}

// Join is l up to the end of r, which begins where l ends, and was frozen.
func Join(l, r api.Plot) (api.Plot, api.Errno) {
	if l.Frozen || !r.Frozen {
		return api.Plot{}, api.ErrDeed
	}
	if slices.Contains(l.Eaten, r.Desc.Id) {
		return api.Plot{}, api.ErrThere
	}
	d, e := desc.Merge(l.Desc, r.Desc)
	if e != api.OK {
		return api.Plot{}, e
	}
	sessions, e := session.Merge(l.Sessions, r.Sessions)
	if e != api.OK {
		return api.Plot{}, e
	}
	eaten := slices.Concat(l.Eaten, r.Eaten, []int64{r.Desc.Id})
	slices.Sort(eaten)
	eaten = slices.Compact(eaten)
	if len(eaten) > api.MaxEaten {
		return api.Plot{}, api.ErrMany
	}
	return api.Plot{
		Desc:     d,
		Pairs:    slices.Concat(l.Pairs, r.Pairs),
		Sessions: sessions,
		Eaten:    eaten,
		Alloc:    l.Alloc,
	}, api.OK
}

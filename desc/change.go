package desc

import (
	"slices"

	"furlong/api"
	"furlong/bound"
)

// Split is d up to key, and a new range with the number id from key on.
func Split(d api.Desc, key string, id int64) (api.Desc, api.Desc, api.Errno) {
	if Check(d) != api.OK {
		return api.Desc{}, api.Desc{}, api.ErrDesc
	}
	left, right, e := bound.Cut(d.Bound, key)
	if e != api.OK {
		return api.Desc{}, api.Desc{}, e
	}
	if id <= d.Id {
		return api.Desc{}, api.Desc{}, api.ErrArg
	}
	l, r := raised(d, d.Gen), raised(d, d.Gen)
	l.Bound = left
	r.Bound, r.Id = right, id
	if Check(l) != api.OK || Check(r) != api.OK {
		return api.Desc{}, api.Desc{}, api.ErrDesc
	}
	return l, r, api.OK
}

// Merge is l up to the end of r, which begins where l ends.
func Merge(l, r api.Desc) (api.Desc, api.Errno) {
	if Check(l) != api.OK || Check(r) != api.OK {
		return api.Desc{}, api.ErrDesc
	}
	all, e := bound.Join(l.Bound, r.Bound)
	if e != api.OK {
		return api.Desc{}, e
	}
	if l.Id == r.Id {
		return api.Desc{}, api.ErrArg
	}
	d := raised(l, max(l.Gen, r.Gen))
	d.Bound = all
	return checked(d)
}

// Add is d with one more member, on node.
func Add(d api.Desc, node int) (api.Desc, api.Errno) {
	if Check(d) != api.OK {
		return api.Desc{}, api.ErrDesc
	}
	if !isNode(int64(node)) {
		return api.Desc{}, api.ErrArg
	}
	if _, there := On(d, node); there {
		return api.Desc{}, api.ErrThere
	}
	if len(d.Members) == api.MaxReplicas {
		return api.Desc{}, api.ErrMany
	}
	d = raised(d, d.Gen)
	d.Members = append(d.Members, api.Member{Node: node, Id: d.Next})
	d.Next++
	return checked(d)
}

// Remove is d without its member with the number id.
func Remove(d api.Desc, id int64) (api.Desc, api.Errno) {
	if Check(d) != api.OK {
		return api.Desc{}, api.ErrDesc
	}
	m, there := Has(d, id)
	if !there {
		return api.Desc{}, api.ErrNone
	}
	if len(d.Members) == 1 {
		return api.Desc{}, api.ErrArg
	}
	d = raised(d, d.Gen)
	at := slices.Index(d.Members, m)
	// The next number stays as it is, so that this one never comes again.
	d.Members = slices.Delete(d.Members, at, at+1)
	return checked(d)
}

// raised is d in the generation behind gen, with a list of its own, for a change
// must not reach the one that d was made from.
func raised(d api.Desc, gen int64) api.Desc {
	d.Gen = gen + 1
	d.Members = slices.Clone(d.Members)
	return d
}

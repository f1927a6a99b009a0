package deed

import (
	"iter"
	"slices"
	"sort"

	"furlong/api"
	"furlong/bound"
)

// Get is the value that key has in p, if it has one.
func Get(p api.Plot, key string) (string, bool) {
	at := place(p.Pairs, key)
	if !stands(p.Pairs, at, key) {
		return "", false
	}
	return p.Pairs[at].Value, true
}

// Set is p with the change c done to its pairs.
func Set(p api.Plot, c api.Change) api.Plot {
	at := place(p.Pairs, c.Key)
	end := at
	if stands(p.Pairs, at, c.Key) {
		end++
	}
	var now []api.Pair
	if !c.Gone {
		now = []api.Pair{{Key: c.Key, Value: c.Value}}
	}
	p = own(p)
	p.Pairs = slices.Replace(p.Pairs, at, end, now...)
	return p
}

// Scan is the first pairs of p, at most limit, with keys from from on, and below
// to; to "": all from from on; and the key of the first one that is left out for
// the limit's sake.
func Scan(p api.Plot, from, to string, limit int) ([]api.Pair, string) {
	var l []api.Pair
	for pair := range within(p.Pairs, api.Bound{From: from, To: to}) {
		if len(l) >= limit {
			return l, pair.Key
		}
		l = append(l, pair)
	}
	return l, ""
}

// place is where key stands in l, or else where it would come.
func place(l []api.Pair, key string) int {
	return sort.Search(len(l), func(i int) bool { return l[i].Key >= key })
}

// stands is whether key stands in l at its place.
func stands(l []api.Pair, at int, key string) bool {
	return at < len(l) && l[at].Key == key
}

// within hands over the pairs of l whose keys lie in b, one behind the other.
func within(l []api.Pair, b api.Bound) iter.Seq[api.Pair] {
	return func(yield func(api.Pair) bool) {
		for _, p := range l[place(l, b.From):] {
			// Keys rise, so that none behind this one lies in b.
			if !bound.Has(b, p.Key) || !yield(p) {
				return
			}
		}
	}
}

package member

import (
	"slices"

	"furlong/api"
	"furlong/desc"
)

// Count is how many of d's members are among ids.
func Count(d api.Desc, ids []int64) int {
	among := func(m api.Member) bool { return slices.Contains(ids, m.Id) }
	n := 0
	for _, m := range d.Members {
		if among(m) {
			n++
		}
	}
	return n
}

// Agreed is the greatest of the numbers that more than half of them reach.
func Agreed(l ...int64) int64 {
	if len(l) == 0 {
		return 0
	}
	rising := slices.Sorted(slices.Values(l))
	return rising[len(rising)-desc.Quorum(len(rising))]
}

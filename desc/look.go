package desc

import (
	"slices"

	"furlong/api"
)

// On is d's member on node, if it has one.
func On(d api.Desc, node int) (api.Member, bool) {
	for _, m := range d.Members {
		if m.Node == node {
			return m, true
		}
	}
	return api.Member{}, false
}

// Has is d's member with the number id, if it has one.
func Has(d api.Desc, id int64) (api.Member, bool) {
	for _, m := range d.Members {
		if m.Id == id {
			return m, true
		}
	}
	return api.Member{}, false
}

// Quorum is how many are more than half of n: the least number that is.
func Quorum(n int) int {
	// A shift, since a division would round the half of a number below 0 up.
	return n>>1 + 1
}

// Same is whether a and b are the same, member by member.
func Same(a, b api.Desc) bool {
	if a.Id != b.Id || a.Bound != b.Bound || a.Gen != b.Gen || a.Next != b.Next {
		return false
	}
	return slices.Equal(a.Members, b.Members)
}

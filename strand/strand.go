// Package strand reads texts of strands (layer 1) that may be more, and longer,
// than those of a knot that knot.Untie takes: a range's, a log's, a packet's.
package strand

import (
	"strings"

	"furlong/api"
	"furlong/knot"
)

// All is the texts whose strands s is, and true; false, if it is none's.
func All(s string) ([]string, bool) {
	var l []string
	for s != "" {
		digits, behind, _ := strings.Cut(s, ":")
		n, e := knot.Int(digits)
		// Held against what there is ahead of any sum, which might wrap round.
		if e != api.OK || n < 0 || n >= int64(len(behind)) || behind[n] != ',' {
			return nil, false
		}
		l = append(l, behind[:n])
		s = behind[n+1:]
	}
	return l, true
}

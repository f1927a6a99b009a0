// Package knot is layer 1: texts tied into one text, so that each of them is
// found again, and texts sealed, so that they tell whether they were spoilt.
// See shared/doc/01-knot.md.
package knot

import (
	"strings"

	"furlong/api"
)

// Tie is the strands of all texts, one behind the other.
func Tie(l ...string) string {
	var b strings.Builder
	for _, s := range l {
		b.WriteString(Num(int64(len(s))))
		b.WriteByte(':')
		b.WriteString(s)
		b.WriteByte(',')
	}
	return b.String()
}

// Untie is the texts whose Tie s is.
func Untie(s string) ([]string, api.Errno) {
	if len(s) > api.MaxKnot {
		return nil, api.ErrKnot
	}
	var l []string
	for s != "" {
		text, rest, e := First(s)
		if e != api.OK || len(l) == api.MaxStrands {
			return nil, api.ErrKnot
		}
		l = append(l, text)
		s = rest
	}
	return l, api.OK
}

// First is the text of the strand with which s begins, and what stands behind
// that strand.
func First(s string) (string, string, api.Errno) {
	// What follows may be of any length: only the strand itself is bounded.
	near := s[:min(len(s), api.MaxKnot)]
	digits, behind, found := strings.Cut(near, ":")
	if !found {
		return "", s, api.ErrKnot
	}
	n, e := Int(digits)
	// Held against what there is ahead of any sum, which might wrap round.
	if e != api.OK || n < 0 || n >= int64(len(behind)) || behind[n] != ',' {
		return "", s, api.ErrKnot
	}
	end := len(digits) + len(":") + int(n) + len(",")
	return behind[:n], s[end:], api.OK
}

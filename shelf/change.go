package shelf

import (
	"strings"

	"furlong/api"
	"furlong/knot"
)

const (
	markKept = "0"
	markGone = "1"
)

// mayBe is whether c is a change that a shelf takes.
func mayBe(c api.Change) bool {
	if len(c.Key) < 1 || len(c.Key) > api.MaxName {
		return false
	}
	if c.Gone {
		return c.Value == ""
	}
	return len(c.Value) <= api.MaxThing
}

// allMayBe is whether each of l is a change that a shelf takes.
func allMayBe(l []api.Change) bool {
	for _, c := range l {
		if !mayBe(c) {
			return false
		}
	}
	return true
}

// changeText is a change's text.
func changeText(c api.Change) string {
	mark := markKept
	if c.Gone {
		mark = markGone
	}
	return knot.Tie(c.Key, mark, c.Value)
}

// changesText is the text of changes; of one that no knot may be, only so much
// that it is too long, for many changes may share one value and be far longer
// than they.
func changesText(l []api.Change) string {
	var b strings.Builder
	for _, c := range l {
		if b.Len() > api.MaxKnot {
			break
		}
		b.WriteString(knot.Tie(changeText(c)))
	}
	return b.String()
}

// readChange is the change whose text s is; false, if there is none.
func readChange(s string) (api.Change, bool) {
	parts, e := knot.Untie(s)
	if e != api.OK || len(parts) != 3 {
		return api.Change{}, false
	}
	mark := parts[1]
	if mark != markKept && mark != markGone {
		return api.Change{}, false
	}
	return api.Change{Key: parts[0], Value: parts[2], Gone: mark == markGone}, true
}

// readChanges is the changes whose text s is; false, if there are none, or one
// of them may not be.
func readChanges(s string) ([]api.Change, bool) {
	texts, e := knot.Untie(s)
	if e != api.OK {
		return nil, false
	}
	l := make([]api.Change, 0, len(texts))
	for _, text := range texts {
		c, ok := readChange(text)
		if !ok || !mayBe(c) {
			return nil, false
		}
		l = append(l, c)
	}
	return l, true
}

package bound

import (
	"strings"

	"furlong/api"
)

const (
	// The levels of texts that are not the directory's own.
	levelUser = 0
	levelNone = 3

	// The first bytes of the directory's keys are its levels, rising.
	firstLevel = 1
	lastLevel  = 2
)

// Level is to which level of the directory a text belongs.
func Level(k string) int {
	switch {
	case k == "" || k[0] < firstLevel:
		return levelNone
	case k[0] > lastLevel:
		return levelUser
	}
	return int(k[0])
}

// Meta is where, in a level of the directory, is told who keeps what ends at
// to.
func Meta(level int, to string) string {
	if !isLevel(level) {
		return ""
	}
	if to == "" {
		// What has no end is told behind all else: with the level's byte, this
		// is the greatest key of the level.
		to = strings.Repeat("\xff", api.MaxKey-1)
	}
	return lead(level) + to
}

// Search is the bound of a level's keys behind Meta of k: as a range is told
// under its end, the first of them tells who keeps the key k.
func Search(level int, k string) api.Bound {
	if !isLevel(level) {
		return api.Bound{}
	}
	return api.Bound{From: Meta(level, k) + "\x00", To: lead(level + 1)}
}

// isLevel is whether there is such a level of the directory.
func isLevel(level int) bool {
	return firstLevel <= level && level <= lastLevel
}

// lead is the byte with which a level's keys begin.
func lead(level int) string {
	return string([]byte{byte(level)})
}

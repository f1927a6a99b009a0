package ledger

import (
	"furlong/api"
	"furlong/reel"
)

// tape is what a tape tells, as far as it is right.
type tape struct {
	epoch   int64
	base    string
	records []string
	right   int // how many bytes are right
	size    int // how many bytes there are
}

// readBoth is what the reel's tapes tell.
func readBoth(r *reel.Reel) ([api.Tapes]tape, api.Errno) {
	var tapes [api.Tapes]tape
	for n := range tapes {
		s, e := r.Read(n)
		if e != api.OK {
			return [api.Tapes]tape{}, e
		}
		tapes[n] = read(s)
	}
	return tapes, api.OK
}

// read is what a tape tells that has the bytes s.
func read(s string) tape {
	t := tape{size: len(s)}
	t.right = pages(s, func(p page) {
		if p.kind == kindBase {
			t.epoch, t.base = p.number, p.text
			return
		}
		t.records = append(t.records, p.text)
	})
	return t
}

// pages hands each page to take, as far as s is right, and tells how far that
// is.
func pages(s string, take func(p page)) int {
	right := 0
	records := int64(0)
reading:
	for {
		p, behind, ok := first(s[right:])
		switch {
		case !ok:
			break reading
		case right == 0 && p.begins():
			take(p)
		case right > 0 && p.follows(records):
			take(p)
			records++
		default:
			break reading
		}
		right = len(s) - len(behind)
	}
	return right
}

// newest is the tape that the ledger is, if there is one: that with the greater
// epoch.
func newest(tapes [api.Tapes]tape) int {
	if tapes[1].epoch > tapes[0].epoch {
		return 1
	}
	return 0
}

// other is the tape that n is not.
func other(n int) int {
	return api.Tapes - 1 - n
}

package replica

import (
	"furlong/api"
	"furlong/deed"
	"furlong/knot"
	"furlong/raft"
	"furlong/roll"
	"furlong/strand"
)

// strands are those of a replica's text.
const strands = 7

// Put is r's text: what of it must last.
func Put(r api.Replica) string {
	text := ""
	if !Blank(r) {
		text = deed.Put(r.Plot)
	}
	return knot.Tie(
		knot.Num(r.Raft.Me), knot.Num(r.Raft.Term), knot.Num(r.Raft.Vote),
		roll.Put(r.Raft.Roll), knot.Num(r.Raft.Commit), knot.Num(r.Applied), text,
	)
}

// Parse is the replica that may be, and whose text s is, with this draw.
func Parse(s string, draw int) (api.Replica, api.Errno) {
	// A log and a range may have more than Untie would take.
	parts, _ := strand.All(s)
	if len(parts) != strands {
		return api.Replica{}, api.ErrReplica
	}
	l, e := roll.Parse(parts[3])
	if e != api.OK {
		return api.Replica{}, api.ErrReplica
	}
	p, ok := plotOf(parts[6])
	if !ok {
		return api.Replica{}, api.ErrReplica
	}
	a := raft.New(number(parts[0]), draw)
	a.Term, a.Vote, a.Roll, a.Commit = number(parts[1]), number(parts[2]), l, number(parts[4])
	r := api.Replica{Raft: a, Plot: p, Applied: number(parts[5])}
	if Check(r) != api.OK {
		return api.Replica{}, api.ErrReplica
	}
	return r, api.OK
}

// plotOf is the range whose text this is, the zero one of a blank replica's "",
// and true; false, if there is none.
func plotOf(text string) (api.Plot, bool) {
	if text == "" {
		return api.Plot{}, true
	}
	p, e := deed.Parse(text)
	return p, e == api.OK
}

// number is the number whose text this is. If it is none's, it is -1, which none
// of a replica's numbers is.
func number(text string) int64 {
	n, e := knot.Int(text)
	if e != api.OK {
		return -1
	}
	return n
}

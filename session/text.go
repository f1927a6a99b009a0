package session

import (
	"slices"

	"furlong/api"
	"furlong/knot"
	"furlong/order"
)

// sessionStrands is how many strands a session has in a text: its client, its
// seq, its reply.
const sessionStrands = 3

// Put is the text of l.
func Put(l []api.Session) string {
	var parts []string
	for _, s := range l {
		parts = append(parts, knot.Num(s.Client), knot.Num(s.Seq), order.PutReply(s.Reply))
	}
	return knot.Tie(parts...)
}

// Parse is the sessions that may be, and whose text s is.
func Parse(s string) ([]api.Session, api.Errno) {
	parts, e := knot.Untie(s)
	if e != api.OK || len(parts)%sessionStrands != 0 {
		return nil, api.ErrSession
	}
	var l []api.Session
	for piece := range slices.Chunk(parts, sessionStrands) {
		reply, e := order.ParseReply(piece[2])
		if e != api.OK {
			return nil, api.ErrSession
		}
		l = append(l, api.Session{Client: number(piece[0]), Seq: number(piece[1]), Reply: reply})
	}
	if Check(l) != api.OK {
		return nil, api.ErrSession
	}
	return l, api.OK
}

// number is the number whose text this is. If it is none's, it is 0, which
// neither a client's nor a seq's is.
func number(text string) int64 {
	n, _ := knot.Int(text)
	return n
}

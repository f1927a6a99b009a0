package order

import (
	"furlong/api"
	"furlong/knot"
)

const (
	orderStrands = 11
	replyStrands = 4 // ahead of a reply's pairs
	pairStrands  = 2

	yes = "1"
	no  = "0"
)

// Put is o's text.
func Put(o api.Order) string {
	return knot.Tie(
		knot.Num(int64(o.Kind)), knot.Num(o.Client), knot.Num(o.Seq),
		o.Key, o.To, o.Value, o.Old, truth(o.Has),
		knot.Num(int64(o.Limit)), knot.Num(o.Id), knot.Num(int64(o.Node)),
	)
}

// Parse is the order that may be, and whose text s is.
func Parse(s string) (api.Order, api.Errno) {
	parts, e := knot.Untie(s)
	if e != api.OK || len(parts) != orderStrands {
		return api.Order{}, api.ErrOrder
	}
	o := api.Order{
		Kind:   int(number(parts[0])),
		Client: number(parts[1]),
		Seq:    number(parts[2]),
		Key:    parts[3],
		To:     parts[4],
		Value:  parts[5],
		Old:    parts[6],
		Has:    parts[7] == yes,
		Limit:  int(number(parts[8])),
		Id:     number(parts[9]),
		Node:   int(number(parts[10])),
	}
	// What was read of a part that says something else has another text.
	if Check(o) != api.OK || Put(o) != s {
		return api.Order{}, api.ErrOrder
	}
	return o, api.OK
}

// PutReply is r's text.
func PutReply(r api.Reply) string {
	parts := []string{knot.Num(int64(r.Code)), knot.Num(int64(r.Err)), truth(r.Has), r.Value}
	for _, p := range r.Pairs {
		parts = append(parts, p.Key, p.Value)
	}
	return knot.Tie(parts...)
}

// ParseReply is the reply that may be, and whose text s is.
func ParseReply(s string) (api.Reply, api.Errno) {
	parts, e := knot.Untie(s)
	if e != api.OK || len(parts) < replyStrands {
		return api.Reply{}, api.ErrOrder
	}
	r := api.Reply{
		Code:  int(number(parts[0])),
		Err:   api.Errno(number(parts[1])),
		Has:   parts[2] == yes,
		Value: parts[3],
		Pairs: pairs(parts[replyStrands:]),
	}
	// Likewise; and a strand that is left over behind the pairs is found out.
	if CheckReply(r) != api.OK || PutReply(r) != s {
		return api.Reply{}, api.ErrOrder
	}
	return r, api.OK
}

// pairs is the pairs whose strands these texts are, as far as they are whole.
func pairs(texts []string) []api.Pair {
	var l []api.Pair
	for i := range len(texts) / pairStrands {
		at := i * pairStrands
		l = append(l, api.Pair{Key: texts[at], Value: texts[at+1]})
	}
	return l
}

// number is the number whose text this is. If it is none's, it is 0, whose text
// is another one.
func number(text string) int64 {
	n, _ := knot.Int(text)
	return n
}

// truth is the text of whether something is so.
func truth(is bool) string {
	if is {
		return yes
	}
	return no
}

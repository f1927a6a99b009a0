package post

import (
	"slices"

	"furlong/api"
	"furlong/knot"
	"furlong/order"
	"furlong/strand"
)

const (
	packetStrands = 13
	wireStrands   = 11
	entryStrands  = 2

	yes = "1"
	no  = "0"
)

// Put is p's text, which tells whether it was spoilt.
func Put(p api.Packet) (string, api.Errno) {
	if e := Check(p); e != api.OK {
		return "", e
	}
	return knot.Seal(knot.Tie(
		knot.Num(int64(p.Kind)), knot.Num(int64(p.From)), knot.Num(int64(p.To)), knot.Num(p.Range),
		wireText(p.Wire),
		knot.Num(p.Id), knot.Num(p.Next),
		order.Put(p.Order),
		knot.Num(p.Client), knot.Num(p.Seq), knot.Num(int64(p.Status)), knot.Num(int64(p.Hint)),
		order.PutReply(p.Reply),
	)), api.OK
}

// wireText is w's text.
func wireText(w api.Wire) string {
	reject := no
	if w.Reject {
		reject = yes
	}
	return knot.Tie(
		knot.Num(int64(w.Kind)), knot.Num(w.From), knot.Num(w.To), knot.Num(w.Term),
		knot.Num(w.Index), knot.Num(w.LogTerm), knot.Num(w.Commit), knot.Num(w.Hint),
		reject, entriesText(w.Entries), w.Text,
	)
}

// entriesText is the text of entries.
func entriesText(l []api.Entry) string {
	parts := make([]string, 0, len(l)*entryStrands)
	for _, e := range l {
		parts = append(parts, knot.Num(e.Term), e.Text)
	}
	return knot.Tie(parts...)
}

// Parse is the packet that may be, and whose text s is.
func Parse(s string) (api.Packet, api.Errno) {
	var p api.Packet
	var parts []string
	body, e := knot.Open(s)
	if e != api.OK {
		goto none
	}
	// Entries may be so many, and so long, that Untie would not take them.
	parts, _ = strand.All(body)
	if len(parts) != packetStrands {
		goto none
	}
	if !read(&p.Kind, parts[0]) || !read(&p.From, parts[1]) || !read(&p.To, parts[2]) || !read(&p.Range, parts[3]) {
		goto none
	}
	if p.Wire, e = readWire(parts[4]); e != api.OK {
		goto none
	}
	if !read(&p.Id, parts[5]) || !read(&p.Next, parts[6]) {
		goto none
	}
	if p.Order, e = order.Parse(parts[7]); e != api.OK {
		goto none
	}
	if !read(&p.Client, parts[8]) || !read(&p.Seq, parts[9]) || !read(&p.Status, parts[10]) || !read(&p.Hint, parts[11]) {
		goto none
	}
	if p.Reply, e = order.ParseReply(parts[12]); e != api.OK {
		goto none
	}
	if Check(p) != api.OK {
		goto none
	}
	return p, api.OK

none:
	return api.Packet{}, api.ErrPost
}

// readWire is the wire whose text s is, whether it may be or not.
func readWire(s string) (api.Wire, api.Errno) {
	var w api.Wire
	var e api.Errno
	parts, _ := strand.All(s)
	if len(parts) != wireStrands {
		goto none
	}
	if !read(&w.Kind, parts[0]) || !read(&w.From, parts[1]) || !read(&w.To, parts[2]) || !read(&w.Term, parts[3]) {
		goto none
	}
	if !read(&w.Index, parts[4]) || !read(&w.LogTerm, parts[5]) || !read(&w.Commit, parts[6]) || !read(&w.Hint, parts[7]) {
		goto none
	}
	if parts[8] != yes && parts[8] != no {
		goto none
	}
	w.Reject = parts[8] == yes
	if w.Entries, e = readEntries(parts[9]); e != api.OK {
		goto none
	}
	w.Text = parts[10]
	return w, api.OK

none:
	return api.Wire{}, api.ErrPost
}

// readEntries is the entries whose text s is, whether they may be or not.
func readEntries(s string) ([]api.Entry, api.Errno) {
	var l []api.Entry
	parts, whole := strand.All(s)
	if !whole || len(parts)%entryStrands != 0 {
		goto none
	}
	for piece := range slices.Chunk(parts, entryStrands) {
		entry := api.Entry{Text: piece[1]}
		if !read(&entry.Term, piece[0]) {
			goto none
		}
		l = append(l, entry)
	}
	return l, api.OK

none:
	return nil, api.ErrPost
}

// read makes to the number whose text this is; false, if it is none's.
func read[N int | int64](to *N, text string) bool {
	n, e := knot.Int(text)
	*to = N(n)
	// A number may be too great for an int.
	return e == api.OK && int64(*to) == n
}

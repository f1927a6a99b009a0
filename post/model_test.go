package post_test

import (
	"fmt"
	"hash/adler32"
	"strconv"
	"strings"

	"furlong/api"
	"furlong/order"
)

// span is the numbers from least to most.
type span struct{ least, most int64 }

// spans are, told a second time, among which numbers each field of a packet is
// that may be; all others are 0.
func spans(p api.Packet) map[string]span {
	node, number, index := span{1, 7}, span{1, 1 << 40}, span{0, 1 << 40}
	m := map[string]span{"Kind": {1, 4}, "Range": number}
	switch p.Kind {
	case 1:
		m["From"], m["To"] = node, node
		m["Wire.Kind"] = span{1, 7}
		m["Wire.From"], m["Wire.To"], m["Wire.Term"] = number, number, number
		m["Wire.Index"], m["Wire.LogTerm"], m["Wire.Commit"] = index, index, index
		m["Wire.Hint"] = span{-1, 1 << 40}
	case 2:
		m["From"], m["To"] = node, node
		m["Id"] = number
		m["Next"] = span{max(2, p.Id+1), 1<<40 + 1}
	case 3:
		m["To"] = node
		for _, name := range numberNames() {
			if strings.HasPrefix(name, "Order.") {
				m[name] = span{at(&p, name).Int(), at(&p, name).Int()}
			}
		}
	case 4:
		m["From"] = node
		m["Client"], m["Seq"] = number, number
		m["Status"] = span{1, 3}
		if p.Status == 2 {
			m["Hint"] = span{0, 7}
		}
		if p.Status == 1 {
			m["Reply.Code"], m["Reply.Err"] = span{0, 4}, span{0, 999}
		}
	}
	return m
}

// may is, told a second time, whether p may be.
func may(p api.Packet) bool {
	m := spans(p)
	for _, name := range numberNames() {
		if n := at(&p, name).Int(); n < m[name].least || n > m[name].most {
			return false
		}
	}
	if p.Kind == 3 {
		if order.Check(p.Order) != api.OK || p.Order.Kind == 0 {
			return false
		}
	} else if p.Order != (api.Order{}) {
		return false
	}
	if p.Kind == 4 && p.Status == 1 {
		if order.CheckReply(p.Reply) != api.OK {
			return false
		}
	} else if !order.Same(p.Reply, api.Reply{}) {
		return false
	}
	return mayWire(p.Kind, p.Wire)
}

// mayWire is, told a second time, whether those fields of a wire may be that
// are not told by spans.
func mayWire(kind int, w api.Wire) bool {
	if kind == 1 && w.From == w.To || kind != 1 && w.Reject {
		return false
	}
	if len(w.Text) > 0 && (kind != 1 || w.Kind != 7) || len(w.Text) > 262144 {
		return false
	}
	if len(w.Entries) > 0 && (kind != 1 || w.Kind != 5) || len(w.Entries) > 64 {
		return false
	}
	term := w.LogTerm
	for i, e := range w.Entries {
		if e.Term < term || e.Term > 1<<40 || w.Index+int64(i)+1 > 1<<40 || len(e.Text) > 131072 {
			return false
		}
		term = e.Term
	}
	return true
}

// tie is the strands of texts.
func tie(l ...string) string {
	var b strings.Builder
	for _, s := range l {
		b.WriteString(strconv.Itoa(len(s)) + ":" + s + ",")
	}
	return b.String()
}

// sealed is s with its sum behind it.
func sealed(s string) string {
	return s + fmt.Sprintf("%08x", adler32.Checksum([]byte(s)))
}

// num is the digits of a number.
func num(n int64) string {
	return strconv.FormatInt(n, 10)
}

// parts are the texts that the chapter says of a packet, which are tied.
func parts(p api.Packet) []string {
	return []string{
		strconv.Itoa(p.Kind), strconv.Itoa(p.From), strconv.Itoa(p.To), num(p.Range),
		tie(wireParts(p.Wire)...), num(p.Id), num(p.Next), order.Put(p.Order),
		num(p.Client), num(p.Seq), strconv.Itoa(p.Status), strconv.Itoa(p.Hint), order.PutReply(p.Reply),
	}
}

// wireParts are those of a wire.
func wireParts(w api.Wire) []string {
	reject := "0"
	if w.Reject {
		reject = "1"
	}
	return []string{
		strconv.Itoa(w.Kind), num(w.From), num(w.To), num(w.Term), num(w.Index), num(w.LogTerm), num(w.Commit), num(w.Hint),
		reject, tie(entryParts(w.Entries)...), w.Text,
	}
}

// entryParts are those of entries.
func entryParts(l []api.Entry) []string {
	var texts []string
	for _, e := range l {
		texts = append(texts, num(e.Term), e.Text)
	}
	return texts
}

// text is the text that the chapter says of a packet.
func text(p api.Packet) string {
	return sealed(tie(parts(p)...))
}

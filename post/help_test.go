package post_test

import (
	"fmt"
	"math"
	"reflect"
	"slices"
	"strconv"
	"strings"
	"testing"

	"furlong/api"
	"furlong/post"
)

const (
	maxId     = int64(1) << 40
	maxSeq    = int64(1) << 40
	maxTerm   = int64(1) << 40
	maxIndex  = int64(1) << 40
	maxNode   = 7
	maxSlips  = 64
	mostEntry = 131072
	mostText  = 262144
)

// a is a text of n bytes.
func a(n int) string {
	return strings.Repeat("a", n)
}

// show tells what v is, in a line that is not too long.
func show(v any) string {
	s := fmt.Sprintf("%+v", v)
	return strconv.Quote(s[:min(len(s), 400)])
}

// entries are some of these Terms, each one with a Text of its own.
func entries(terms ...int64) []api.Entry {
	var l []api.Entry
	for i, n := range terms {
		l = append(l, api.Entry{Term: n, Text: "e" + strconv.Itoa(i)})
	}
	return l
}

// named is a packet, and what there is about it.
type named struct {
	name string
	p    api.Packet
}

// raft is a packet with a wire of this kind.
func raft(kind int) api.Packet {
	return api.Packet{Kind: api.PkRaft, From: 2, To: 3, Range: 5, Wire: api.Wire{Kind: kind, From: 11, To: 12, Term: 9, Index: 6, LogTerm: 4, Commit: 5, Hint: 8}}
}

// slips is a packet with entries of these Terms, and then some more of the last
// one, until there are n.
func slips(n int, terms ...int64) api.Packet {
	p := raft(api.RaAppend)
	for len(terms) < n {
		terms = append(terms, terms[len(terms)-1])
	}
	p.Wire.Entries = entries(terms[:n]...)
	return p
}

// some is a packet with three entries.
func some() api.Packet {
	return slips(3, 4, 7, 9)
}

// snap is a packet with a plot's text.
func snap() api.Packet {
	p := raft(api.RaSnap)
	p.Wire.Text = "1:a,"
	return p
}

// gone is a packet that says that a replica is gone.
func gone() api.Packet {
	return api.Packet{Kind: api.PkGone, From: 2, To: 3, Range: 5, Id: 11, Next: 14}
}

// put is an order that may be.
func put() api.Order {
	return api.Order{Kind: api.OrPut, Client: 21, Seq: 22, Key: "k", Value: "1:v,"}
}

// ask is a packet with an order.
func ask() api.Packet {
	return api.Packet{Kind: api.PkAsk, To: 3, Range: 5, Order: put()}
}

// reply is a reply that may be, with pairs.
func reply() api.Reply {
	return api.Reply{Code: api.ReBad, Err: 60, Has: true, Value: "v", Pairs: []api.Pair{{Key: "a", Value: "1"}, {Key: "c"}, {Key: "b", Value: "22"}}}
}

// tell is a packet that tells this status, and nothing more.
func tell(status int) api.Packet {
	return api.Packet{Kind: api.PkTell, From: 2, Range: 5, Client: 21, Seq: 22, Status: status}
}

// done is a packet with a reply.
func done() api.Packet {
	p := tell(api.StDone)
	p.Reply = reply()
	return p
}

// not is a packet that tells which node leads.
func not() api.Packet {
	p := tell(api.StNot)
	p.Hint = 4
	return p
}

// plain are packets of each kind, wires of each kind, and each status.
func plain() []named {
	l := []named{
		{"entries", some()}, {"a plot", snap()}, {"gone", gone()}, {"an order", ask()},
		{"a reply", done()}, {"the zero reply", tell(api.StDone)}, {"a hint", not()}, {"no hint", tell(api.StNot)}, {"no such range", tell(api.StNone)},
	}
	for kind := api.RaPre; kind <= api.RaSnap; kind++ {
		l = append(l, named{"wire " + strconv.Itoa(kind), raft(kind)})
	}
	return l
}

// with is p, changed, with lists of its own.
func with(p api.Packet, change func(p *api.Packet)) api.Packet {
	p = copied(p)
	change(&p)
	return p
}

// copied is p with lists of its own.
func copied(p api.Packet) api.Packet {
	p.Wire.Entries = slices.Clone(p.Wire.Entries)
	p.Reply.Pairs = slices.Clone(p.Reply.Pairs)
	return p
}

// equal is whether two packets are the same, whether their lists of no length are
// nil or not.
func equal(p, o api.Packet) bool {
	return reflect.DeepEqual(trim(p), trim(o))
}

// trim is p, whose lists of no length are nil.
func trim(p api.Packet) api.Packet {
	if len(p.Wire.Entries) == 0 {
		p.Wire.Entries = nil
	}
	if len(p.Reply.Pairs) == 0 {
		p.Reply.Pairs = nil
	}
	return p
}

// names are the names of a packet's fields of these kinds, such as Wire.Kind.
func names(kinds ...reflect.Kind) []string {
	return namesOf(reflect.TypeFor[api.Packet](), "", kinds)
}

func namesOf(what reflect.Type, ahead string, kinds []reflect.Kind) []string {
	var l []string
	for i := range what.NumField() {
		f := what.Field(i)
		if f.Type.Kind() == reflect.Struct {
			l = append(l, namesOf(f.Type, ahead+f.Name+".", kinds)...)
		} else if slices.Contains(kinds, f.Type.Kind()) {
			l = append(l, ahead+f.Name)
		}
	}
	return l
}

// at is p's field of that name.
func at(p *api.Packet, name string) reflect.Value {
	v := reflect.ValueOf(p).Elem()
	for part := range strings.SplitSeq(name, ".") {
		v = v.FieldByName(part)
	}
	return v
}

// set is p with n in the field of that name.
func set(p api.Packet, name string, n int64) api.Packet {
	return with(p, func(p *api.Packet) { at(p, name).SetInt(n) })
}

// numberNames are the names of all fields that are numbers.
func numberNames() []string {
	return names(reflect.Int, reflect.Int64)
}

// others are p with just one field that is another one, by what was done to
// which.
func others(p api.Packet) []named {
	var l []named
	add := func(name string, change func(p *api.Packet)) {
		l = append(l, named{name, with(p, change)})
	}
	for _, name := range numberNames() {
		for _, by := range []int64{1, -1, 1 << 8, 1 << 32, math.MinInt64} {
			add(name, func(p *api.Packet) { at(p, name).SetInt(at(p, name).Int() + by) })
		}
	}
	for _, name := range names(reflect.Bool) {
		add(name, func(p *api.Packet) { at(p, name).SetBool(!at(p, name).Bool()) })
	}
	for _, name := range names(reflect.String) {
		for _, more := range []string{"x", "\x00", a(3)} {
			add(name+", longer", func(p *api.Packet) { at(p, name).SetString(at(p, name).String() + more) })
		}
		if s := at(&p, name).String(); s != "" {
			add(name+", empty", func(p *api.Packet) { at(p, name).SetString("") })
			add(name+", as long", func(p *api.Packet) { at(p, name).SetString(s[:len(s)-1] + "~") })
		}
	}
	add("an entry more", func(p *api.Packet) { p.Wire.Entries = append(p.Wire.Entries, api.Entry{}) })
	add("an entry ahead", func(p *api.Packet) { p.Wire.Entries = slices.Insert(p.Wire.Entries, 0, api.Entry{}) })
	for i := range p.Wire.Entries {
		add("an entry less", func(p *api.Packet) { p.Wire.Entries = slices.Delete(p.Wire.Entries, i, i+1) })
		add("an entry's Term", func(p *api.Packet) { p.Wire.Entries[i].Term++ })
		add("an entry's Text", func(p *api.Packet) { p.Wire.Entries[i].Text += "x" })
		add("an entry's Text, empty", func(p *api.Packet) { p.Wire.Entries[i].Text = "" })
	}
	add("a pair more", func(p *api.Packet) { p.Reply.Pairs = append(p.Reply.Pairs, api.Pair{}) })
	add("a pair ahead", func(p *api.Packet) { p.Reply.Pairs = slices.Insert(p.Reply.Pairs, 0, api.Pair{}) })
	for i := range p.Reply.Pairs {
		add("a pair less", func(p *api.Packet) { p.Reply.Pairs = slices.Delete(p.Reply.Pairs, i, i+1) })
		add("a pair's Key", func(p *api.Packet) { p.Reply.Pairs[i].Key += "x" })
		add("a pair's Value", func(p *api.Packet) { p.Reply.Pairs[i].Value += "x" })
	}
	return l
}

// roomy is p, whose lists have room behind them.
func roomy(p api.Packet) api.Packet {
	p.Wire.Entries = append(slices.Clone(p.Wire.Entries), api.Entry{Term: 77, Text: "behind"})[:len(p.Wire.Entries)]
	p.Reply.Pairs = append(slices.Clone(p.Reply.Pairs), api.Pair{Key: "behind", Value: "77"})[:len(p.Reply.Pairs)]
	return p
}

// untouched fails, if what roomy made of p is not as it was any more.
func untouched(t *testing.T, what string, in, p api.Packet) {
	t.Helper()
	if !equal(in, p) {
		t.Errorf("%s: it is %s now", what, show(in))
	}
	n, m := len(in.Wire.Entries), len(in.Reply.Pairs)
	if in.Wire.Entries[:n+1][n] != (api.Entry{Term: 77, Text: "behind"}) || in.Reply.Pairs[:m+1][m] != (api.Pair{Key: "behind", Value: "77"}) {
		t.Errorf("%s: what lies behind its lists was changed", what)
	}
}

// scribble spoils p's lists, behind their ends too.
func scribble(p api.Packet) {
	l, m := p.Wire.Entries, p.Reply.Pairs
	for i := range l[:cap(l)] {
		l[:cap(l)][i] = api.Entry{Term: -7, Text: "spoilt"}
	}
	for i := range m[:cap(m)] {
		m[:cap(m)][i] = api.Pair{Key: "spoilt", Value: "too"}
	}
}

// checks holds what Check says against what it should.
func checks(t *testing.T, what string, p api.Packet, want api.Errno) {
	t.Helper()
	in := roomy(p)
	if e := post.Check(in); e != want {
		t.Errorf("%s: Check of %s: %d, not %d", what, show(p), e, want)
	}
	untouched(t, what, in, p)
}

// ifSo is OK, if it is so, else ErrPost.
func ifSo(is bool) api.Errno {
	if is {
		return api.OK
	}
	return api.ErrPost
}

// right are packets that may be, at the edges too.
func right() []named {
	l := plain()
	add := func(name string, p api.Packet, change func(p *api.Packet)) {
		l = append(l, named{name, with(p, change)})
	}
	for _, c := range plain() {
		add(c.name+", the least Range", c.p, func(p *api.Packet) { p.Range = 1 })
		add(c.name+", the greatest Range", c.p, func(p *api.Packet) { p.Range = maxId })
		add(c.name+", empty lists", c.p, func(p *api.Packet) {
			p.Wire.Entries = append([]api.Entry{}, p.Wire.Entries...)
			p.Reply.Pairs = append([]api.Pair{}, p.Reply.Pairs...)
		})
	}
	add("one node", some(), func(p *api.Packet) { p.To = p.From })
	add("Reject", raft(api.RaPreOk), func(p *api.Packet) { p.Wire.Reject = true })
	add("Reject, with entries", some(), func(p *api.Packet) { p.Wire.Reject = true })
	add("a wire of the least", raft(api.RaPre), func(p *api.Packet) { p.Wire = api.Wire{Kind: api.RaPre, From: 1, To: 2, Term: 1, Hint: -1} })
	add("a wire of the greatest", raft(api.RaSnap), func(p *api.Packet) {
		p.Wire = api.Wire{Kind: api.RaSnap, From: maxId, To: maxId - 1, Term: maxTerm, Index: maxIndex, LogTerm: maxTerm, Commit: maxIndex, Hint: maxIndex}
	})
	for _, s := range []string{"", ",", ":", "0:,", "5:a", "\x00\xff", "\n\r\t", "\u00e9\u20ac", "\xe2\x82", a(9), a(10), a(99), a(100)} {
		add("an entry's Text", some(), func(p *api.Packet) { p.Wire.Entries[1].Text = s })
		add("a plot's Text", snap(), func(p *api.Packet) { p.Wire.Text = s })
	}
	l = append(l, named{"one entry", slips(1, 4)}, named{"entries of later Terms than the wire's", slips(2, 9, 10)}, named{"the greatest Term", slips(3, 4, maxTerm)})
	l = append(l, named{"63 entries", slips(maxSlips-1, 4, 7)}, named{"64 entries", slips(maxSlips, 4, 7)})
	add("the greatest index", some(), func(p *api.Packet) { p.Wire.Index = maxIndex - 3 })
	add("Terms of 0", slips(2, 0), func(p *api.Packet) { p.Wire.LogTerm = 0 })
	add("the least Next", gone(), func(p *api.Packet) { p.Id, p.Next = 1, 2 })
	add("the greatest Next", gone(), func(p *api.Packet) { p.Next = maxId + 1 })
	add("the greatest Id", gone(), func(p *api.Packet) { p.Id, p.Next = maxId, maxId+1 })
	for _, o := range orders() {
		add("an order", ask(), func(p *api.Packet) { p.Order = o })
	}
	for _, r := range replies() {
		add("a reply", tell(api.StDone), func(p *api.Packet) { p.Reply = r })
	}
	for hint := range maxNode + 1 {
		add("a Hint", not(), func(p *api.Packet) { p.Hint = hint })
	}
	return l
}

// orders are those of each kind that a client gives.
func orders() []api.Order {
	l := []api.Order{put()}
	for _, o := range []api.Order{
		{Kind: api.OrGet, Key: "k"}, {Kind: api.OrDel, Key: "k"}, {Kind: api.OrSwap, Key: "k", Value: "v", Old: "w", Has: true}, {Kind: api.OrScan, To: "z", Limit: 100},
		{Kind: api.OrAlloc}, {Kind: api.OrSplit, Key: "k", Id: maxId}, {Kind: api.OrFreeze, Key: "k"}, {Kind: api.OrMerge, Key: "k", Value: a(65536)},
		{Kind: api.OrAdd, Key: "k", Node: 7}, {Kind: api.OrRemove, Key: "k", Id: 1}, {Kind: api.OrLook, Key: "k"}, {Kind: api.OrMeta, Value: "1:4,1:c,1:p,1:9,1:8,1:2,1:1,", Limit: 2},
	} {
		o.Client, o.Seq = 1, maxSeq
		l = append(l, o)
	}
	return l
}

// noOrders are orders that may not be.
func noOrders() []api.Order {
	l := []api.Order{
		{Kind: api.OrGet}, {Kind: api.OrGet, Client: 1, Seq: 1}, {Kind: api.OrGet, Client: 1, Seq: 1, Key: a(33)}, {Kind: 14, Client: 1, Seq: 1, Key: "k"}, {Kind: -1, Client: 1, Seq: 1},
		{Client: 1}, {Seq: 1}, {Client: 1, Seq: 1}, {Client: 1, Seq: 1, Key: "k"}, {Key: "k"}, {Has: true}, {Kind: api.OrMerge, Client: 1, Seq: 1, Key: "k", Value: a(65537)},
	}
	for _, n := range []int64{0, -1, maxSeq + 1} {
		o := put()
		o.Client = n
		l = append(l, o)
		o = put()
		o.Seq = n
		l = append(l, o)
	}
	for _, o := range []api.Order{{To: "x"}, {Old: "x"}, {Has: true}, {Limit: 1}, {Id: 2}, {Node: 1}} {
		o.Kind, o.Client, o.Seq, o.Key = api.OrPut, 1, 1, "k"
		l = append(l, o)
	}
	return l
}

// replies are some that may be.
func replies() []api.Reply {
	return []api.Reply{
		{}, reply(), {Has: true}, {Value: "v"}, {Code: api.ReMoved, Value: "1:a,"}, {Code: api.ReOld}, {Code: api.ReBad, Err: 1}, {Code: api.ReBad, Err: 999},
		{Pairs: []api.Pair{{Key: "a"}}}, {Pairs: []api.Pair{}}, {Value: a(65536), Pairs: slices.Repeat([]api.Pair{{Key: a(32), Value: a(512)}}, 100)},
	}
}

// noReplies are some that may not be.
func noReplies() []api.Reply {
	return []api.Reply{
		{Code: -1}, {Code: 5}, {Code: 1 << 32}, {Err: 1}, {Code: api.ReBad}, {Code: api.ReBad, Err: 1000}, {Code: api.ReBad, Err: -1}, {Code: api.ReMoved, Err: 60}, {Value: a(65537)},
		{Pairs: []api.Pair{{}}}, {Pairs: []api.Pair{{Key: a(33)}}}, {Pairs: []api.Pair{{Key: "a", Value: a(513)}}}, {Pairs: slices.Repeat([]api.Pair{{Key: "a"}}, 101)},
	}
}

// great are packets that may be, and whose texts are long: those of the last ones
// are more than a knot that Untie takes.
func great() []named {
	l := []named{}
	add := func(name string, p api.Packet, change func(p *api.Packet)) {
		l = append(l, named{name, with(p, change)})
	}
	add("the longest Text of an entry", some(), func(p *api.Packet) { p.Wire.Entries[1].Text = a(mostEntry) })
	add("one less", some(), func(p *api.Packet) { p.Wire.Entries[0].Text = a(mostEntry - 1) })
	add("the longest Text", snap(), func(p *api.Packet) { p.Wire.Text = a(mostText) })
	add("one less", snap(), func(p *api.Packet) { p.Wire.Text = a(mostText - 1) })
	for _, n := range []int{7, 8, 9, maxSlips} {
		add(strconv.Itoa(n)+" of the longest Text", slips(n, 4, 7), func(p *api.Packet) {
			for i := range p.Wire.Entries {
				p.Wire.Entries[i].Text = a(mostEntry)
			}
		})
	}
	return l
}

// wrong are packets that may not be, each for the one thing that its name tells.
func wrong() []named {
	l := []named{{"nothing", api.Packet{}}}
	add := func(name string, p api.Packet, change func(p *api.Packet)) {
		l = append(l, named{name, with(p, change)})
	}
	for _, c := range plain() {
		for _, n := range []int64{0, -1, maxId + 1, math.MaxInt64, math.MinInt64} {
			add(c.name+", a Range", c.p, func(p *api.Packet) { p.Range = n })
		}
		for _, n := range []int{0, -1, 5, 6, 255, 256, 257, 1<<32 + c.p.Kind, -c.p.Kind, math.MaxInt, math.MinInt, math.MinInt + c.p.Kind} {
			add(c.name+", a Kind", c.p, func(p *api.Packet) { p.Kind = n })
		}
		for kind := api.PkRaft; kind <= api.PkTell; kind++ {
			if kind != c.p.Kind {
				add(c.name+", another Kind", c.p, func(p *api.Packet) { p.Kind = kind })
			}
		}
	}
	for _, o := range append(noOrders(), api.Order{}) {
		add("an order", ask(), func(p *api.Packet) { p.Order = o })
	}
	for _, r := range noReplies() {
		add("a reply", tell(api.StDone), func(p *api.Packet) { p.Reply = r })
	}
	l = append(l, named{"65 entries", slips(maxSlips+1, 4, 7)}, named{"far more entries", slips(5000, 4)}, named{"an entry ahead of LogTerm", slips(3, 3, 7)}, named{"an entry ahead of one", slips(3, 4, 7, 6)})
	add("an entry's Text", some(), func(p *api.Packet) { p.Wire.Entries[2].Text = a(mostEntry + 1) })
	add("a plot's Text", snap(), func(p *api.Packet) { p.Wire.Text = a(mostText + 1) })
	add("a Next of Id", gone(), func(p *api.Packet) { p.Next = p.Id })
	add("a Next beyond", gone(), func(p *api.Packet) { p.Next = maxId + 2 })
	add("From that is To", some(), func(p *api.Packet) { p.Wire.To = p.Wire.From })
	return l
}

package plot_test

import (
	"fmt"
	"slices"
	"strconv"
	"strings"
	"testing"

	"furlong/api"
	"furlong/deed"
	"furlong/desc"
	"furlong/plot"
)

const (
	maxId  = int64(1) << 40
	maxSeq = int64(1) << 40
)

// a is a text of n bytes.
func a(n int) string {
	return strings.Repeat("a", n)
}

// show tells what v is, in a line that is not too long.
func show(v any) string {
	s := fmt.Sprintf("%+v", v)
	return strconv.Quote(s[:min(len(s), 500)])
}

// pairs are pairs of these keys, each with its own value.
func pairs(keys ...string) []api.Pair {
	var l []api.Pair
	for _, k := range keys {
		l = append(l, api.Pair{Key: k, Value: "v" + k})
	}
	return l
}

// clients are sessions of n clients, from the client first on.
func clients(first int64, n int) []api.Session {
	var l []api.Session
	for i := range int64(n) {
		l = append(l, api.Session{Client: first + i, Seq: 10, Reply: api.Reply{Has: true, Value: "s" + strconv.FormatInt(first+i, 10)}})
	}
	return l
}

// numbers are n numbers from first on.
func numbers(first int64, n int) []int64 {
	var l []int64
	for i := range int64(n) {
		l = append(l, first+i)
	}
	return l
}

// some is a range from c to p with three members, four pairs, one of which stands
// at its From, and two clients' sessions, that has eaten two others.
func some() api.Plot {
	return api.Plot{
		Desc:  api.Desc{Id: 4, Bound: api.Bound{From: "c", To: "p"}, Gen: 9, Members: []api.Member{{Node: 2, Id: 1}, {Node: 7, Id: 3}, {Node: 1, Id: 6}}, Next: 8},
		Pairs: pairs("c", "g", "m", "o\xff"),
		Sessions: []api.Session{
			{Client: 3, Seq: 5, Reply: api.Reply{Has: true, Value: "x"}},
			{Client: 9, Seq: 1, Reply: api.Reply{Code: api.ReBad, Err: 60}},
		},
		Eaten: []int64{6, 8},
	}
}

// first is a range of all keys below p, that gives away numbers, with something
// of the directory.
func first() api.Plot {
	return with(some(), func(p *api.Plot) {
		p.Desc.Id, p.Desc.Bound.From, p.Alloc = 1, "", 11
		p.Pairs = append([]api.Pair{{Key: "\x02k", Value: "no descriptor"}}, p.Pairs...)
	})
}

// beside is a range from p to x, which is frozen, and may be joined to some.
func beside() api.Plot {
	return api.Plot{
		Desc:  api.Desc{Id: 7, Bound: api.Bound{From: "p", To: "x"}, Gen: 20, Members: []api.Member{{Node: 4, Id: 5}}, Next: 6},
		Pairs: pairs("p", "q", "w"),
		Sessions: []api.Session{
			{Client: 3, Seq: 6, Reply: api.Reply{Value: "later"}},
			{Client: 4, Seq: 2},
			{Client: 9, Seq: 1, Reply: api.Reply{Value: "the other's"}},
		},
		Frozen: true,
		Eaten:  []int64{5, 8, 12},
	}
}

// directory is a range with the records of both levels alone.
func directory() api.Plot {
	d := api.Desc{Id: 1, Bound: api.Bound{To: "\x03"}, Gen: 30, Members: []api.Member{{Node: 1, Id: 1}}, Next: 2}
	return api.Plot{
		Desc: d,
		Pairs: []api.Pair{
			{Key: "\x01\x03", Value: record("", "\x03", 5)},
			{Key: "\x02m", Value: record("c", "m", 1)},
			{Key: "\x02t", Value: record("m", "t", maxId)},
			{Key: "\x02" + strings.Repeat("\xff", 31), Value: a(512)},
		},
		Alloc: 6,
	}
}

// record is the text of a descriptor with these keys, in this generation.
func record(from, to string, gen int64) string {
	return desc.Put(api.Desc{Id: 3, Bound: api.Bound{From: from, To: to}, Gen: gen, Members: []api.Member{{Node: 5, Id: 2}}, Next: 4})
}

// heavy is a range from c to p whose text has n bytes.
func heavy(n int) api.Plot {
	p := with(some(), func(p *api.Plot) { p.Pairs = nil })
	for i := range (n - 400) / 63 {
		p.Pairs = append(p.Pairs, api.Pair{Key: fmt.Sprintf("d%05d", i), Value: a(50)})
	}
	// What is left goes to the values; their lengths still have two digits.
	for i := 0; len(deed.Put(p)) < n; i++ {
		left := n - len(deed.Put(p))
		p.Pairs[i].Value = a(50 + min(left, 49))
	}
	if deed.Check(p) != api.OK || len(deed.Put(p)) != n {
		panic("no such range")
	}
	return p
}

// with is p, changed, with lists of its own.
func with(p api.Plot, change func(p *api.Plot)) api.Plot {
	p = copied(p)
	change(&p)
	return p
}

// frozen is p, frozen.
func frozen(p api.Plot) api.Plot {
	return with(p, func(p *api.Plot) { p.Frozen = true })
}

// copied is p with lists of its own.
func copied(p api.Plot) api.Plot {
	p.Desc.Members = slices.Clone(p.Desc.Members)
	p.Pairs = slices.Clone(p.Pairs)
	p.Sessions = slices.Clone(p.Sessions)
	for i := range p.Sessions {
		p.Sessions[i].Reply.Pairs = slices.Clone(p.Sessions[i].Reply.Pairs)
	}
	p.Eaten = slices.Clone(p.Eaten)
	return p
}

// remembers is p, with what o was answered remembered, as its client's last.
func remembers(p api.Plot, o api.Order, r api.Reply) api.Plot {
	l := []api.Session{{Client: o.Client, Seq: o.Seq, Reply: r}}
	for _, s := range p.Sessions {
		if s.Client != o.Client {
			l = append(l, s)
		} else if s.Seq > o.Seq {
			l[0] = s
		}
	}
	slices.SortFunc(l, func(x, y api.Session) int { return int(x.Client - y.Client) })
	p.Sessions = l
	return p
}

// put is p with a value at key.
func put(p api.Plot, key, value string) api.Plot {
	p = gone(p, key)
	p.Pairs = append(p.Pairs, api.Pair{Key: key, Value: value})
	slices.SortFunc(p.Pairs, func(x, y api.Pair) int { return strings.Compare(x.Key, y.Key) })
	return p
}

// gone is p without key.
func gone(p api.Plot, key string) api.Plot {
	p = copied(p)
	p.Pairs = slices.DeleteFunc(p.Pairs, func(x api.Pair) bool { return x.Key == key })
	return p
}

// described is p with another descriptor.
func described(p api.Plot, d api.Desc) api.Plot {
	p.Desc = d
	return p
}

// bad is what is answered with an error.
func bad(e api.Errno) api.Reply {
	return api.Reply{Code: api.ReBad, Err: e}
}

// moved is what is answered by a range that has not what was asked for.
func moved(p api.Plot) api.Reply {
	return api.Reply{Code: api.ReMoved, Value: desc.Put(p.Desc)}
}

// equal is whether two plots are alike, field by field.
func equal(p, q api.Plot) bool {
	return desc.Same(p.Desc, q.Desc) && slices.Equal(p.Pairs, q.Pairs) && slices.EqualFunc(p.Sessions, q.Sessions, like) &&
		p.Frozen == q.Frozen && slices.Equal(p.Eaten, q.Eaten) && p.Alloc == q.Alloc
}

// like is whether two sessions are alike, field by field.
func like(s, o api.Session) bool {
	return s.Client == o.Client && s.Seq == o.Seq && same(s.Reply, o.Reply)
}

// same is whether two replies are alike, field by field.
func same(x, y api.Reply) bool {
	return x.Code == y.Code && x.Err == y.Err && x.Has == y.Has && x.Value == y.Value && slices.Equal(x.Pairs, y.Pairs)
}

// alike is whether two effects are alike, field by field.
func alike(f, g api.Effect) bool {
	return f.Split == g.Split && f.Eaten == g.Eaten && equal(f.Right, g.Right)
}

// applies holds what comes of o against what should come of it, twice, and what
// was handed in against what it was.
func applies(t *testing.T, p api.Plot, o api.Order, want api.Plot, wantR api.Reply, wantF api.Effect) {
	t.Helper()
	in := roomy(p)
	for range 2 {
		q, r, f := plot.Apply(in, o)
		if !equal(q, want) {
			t.Errorf("%s of %s: %s, not %s", show(o), show(p), show(q), show(want))
		}
		if !same(r, wantR) {
			t.Errorf("%s of %s: %s, not %s", show(o), show(p), show(r), show(wantR))
		}
		if !alike(f, wantF) {
			t.Errorf("%s of %s: %s, not %s", show(o), show(p), show(f), show(wantF))
		}
		untouched(t, in, p)
	}
}

// stays is applies of what changes nothing.
func stays(t *testing.T, p api.Plot, o api.Order, wantR api.Reply) {
	t.Helper()
	applies(t, p, o, p, wantR, api.Effect{})
}

// changes is applies of what makes p such, is remembered, and has no effect
// beside it.
func changes(t *testing.T, p api.Plot, o api.Order, to api.Plot, wantR api.Reply) {
	t.Helper()
	applies(t, p, o, remembers(to, o, wantR), wantR, api.Effect{})
}

// What stands in the room behind a list's end.
var (
	spareMember  = api.Member{Node: -77, Id: -77}
	sparePair    = api.Pair{Key: "spare", Value: "room"}
	spareSession = api.Session{Client: -77, Seq: -77}
)

const spareId = -77

// room is l with room behind it, in which something stands.
func room[T any](l []T, spare T) []T {
	all := append(slices.Clone(l), spare, spare)
	return all[: len(l) : len(l)+2]
}

// roomy is p with room behind each of its lists.
func roomy(p api.Plot) api.Plot {
	p.Desc.Members = room(p.Desc.Members, spareMember)
	p.Pairs = room(p.Pairs, sparePair)
	p.Sessions = room(p.Sessions, spareSession)
	for i, s := range p.Sessions {
		p.Sessions[i].Reply.Pairs = room(s.Reply.Pairs, sparePair)
	}
	p.Eaten = room(p.Eaten, spareId)
	return p
}

// behind is whether in the room behind l there still stands what did.
func behind[T comparable](l []T, spare T) bool {
	return slices.Equal(l[len(l):cap(l)], []T{spare, spare})
}

// untouched fails, unless p, which roomy made of was, is as it was.
func untouched(t *testing.T, p, was api.Plot) {
	t.Helper()
	ok := equal(p, was) && behind(p.Desc.Members, spareMember) && behind(p.Pairs, sparePair) && behind(p.Eaten, spareId)
	for _, s := range p.Sessions {
		ok = ok && behind(s.Reply.Pairs, sparePair)
	}
	for _, s := range p.Sessions[len(p.Sessions):cap(p.Sessions)] {
		ok = ok && like(s, spareSession)
	}
	if !ok {
		t.Errorf("what was handed in was changed: %s, not %s", show(p), show(was))
	}
}

// ask is an order of the client 5, who has asked nothing so far.
func ask(o api.Order) api.Order {
	o.Client, o.Seq = 5, 1
	return o
}

// strand is a text's strand.
func strand(s string) string {
	return strconv.Itoa(len(s)) + ":" + s + ","
}

// num is the text of a number.
func num(n int64) string {
	return strconv.FormatInt(n, 10)
}

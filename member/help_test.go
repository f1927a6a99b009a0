package member_test

import (
	"fmt"
	"math"
	"slices"
	"strconv"
	"strings"
	"testing"

	"furlong/api"
	"furlong/deed"
	"furlong/desc"
	"furlong/order"
)

const (
	maxId  = int64(1) << 40
	maxSeq = int64(1) << 40
)

// a is a text of n bytes.
func a(n int) string {
	return strings.Repeat("a", n)
}

// show tells what v is, in a line that is not too long.
func show(v any) string {
	s := fmt.Sprintf("%+v", v)
	return strconv.Quote(s[:min(len(s), 500)])
}

// of is members, two numbers each: the node, and the Id.
func of(l ...int64) []api.Member {
	var m []api.Member
	for i := 0; i < len(l); i += 2 {
		m = append(m, api.Member{Node: int(l[i]), Id: l[i+1]})
	}
	return m
}

// some is a range from c to p with three members, of which one came late and one
// has gone.
func some() api.Desc {
	return api.Desc{Id: 4, Bound: api.Bound{From: "c", To: "p"}, Gen: 9, Members: of(2, 1, 7, 3, 1, 6), Next: 8}
}

// one is a range with one member, and five one with as many as may be.
func one() api.Desc {
	return with(some(), func(d *api.Desc) { d.Members = of(4, 5) })
}

func five() api.Desc {
	return with(some(), func(d *api.Desc) { d.Members = of(2, 1, 7, 3, 1, 6, 3, 8, 6, 10); d.Next = 11 })
}

// with is d, changed, with a list of its own.
func with(d api.Desc, change func(d *api.Desc)) api.Desc {
	d.Members = slices.Clone(d.Members)
	change(&d)
	return d
}

// right are descriptors that may be, at the edges too.
func right() []api.Desc {
	l := []api.Desc{some(), one(), five()}
	for _, d := range []api.Desc{some(), one(), five()} {
		l = append(l,
			with(d, func(d *api.Desc) { d.Gen = maxId }), with(d, func(d *api.Desc) { d.Gen = maxId - 1 }), with(d, func(d *api.Desc) { d.Gen = maxId - 2 }),
			with(d, func(d *api.Desc) { d.Next = maxId }), with(d, func(d *api.Desc) { d.Next = maxId - 1 }),
			with(d, func(d *api.Desc) { d.Id = maxId; d.Bound = api.Bound{} }),
		)
	}
	for n := 1; n <= api.MaxReplicas; n++ {
		d, _ := desc.First([]int{7, 5, 3, 1, 2}[:n]...)
		l = append(l, d)
	}
	return l
}

// wrong are descriptors that may not be.
func wrong() []api.Desc {
	l := []api.Desc{{}, {Members: of(1, 1)}, {Id: 1, Gen: 1, Next: 2}}
	for _, n := range []int64{0, -1, maxId + 1, math.MaxInt64, math.MinInt64} {
		for _, d := range []api.Desc{some(), one(), five()} {
			l = append(l,
				with(d, func(d *api.Desc) { d.Id = n }), with(d, func(d *api.Desc) { d.Gen = n }), with(d, func(d *api.Desc) { d.Next = n }),
				with(d, func(d *api.Desc) { d.Members[0].Id = n }), with(d, func(d *api.Desc) { d.Members[0].Node = int(n) }),
			)
		}
	}
	for _, m := range [][]api.Member{
		nil, of(1, 1, 1, 2), of(1, 1, 2, 1), of(1, 2, 2, 1), of(1, 7, 2, 8), of(8, 1), of(1, 1, 2, 2, 3, 3, 4, 4, 5, 5, 6, 6), make([]api.Member, 1000),
	} {
		l = append(l, with(some(), func(d *api.Desc) { d.Members = m }))
	}
	return append(l, with(some(), func(d *api.Desc) { d.Bound.To = "b" }), with(some(), func(d *api.Desc) { d.Bound.From = a(34) }))
}

// equal is whether two descriptors are alike, field by field.
func equal(c, d api.Desc) bool {
	return c.Id == d.Id && c.Bound == d.Bound && c.Gen == d.Gen && slices.Equal(c.Members, d.Members) && c.Next == d.Next
}

// mayBe is whether d may be, as chapter 6 tells it, but for its Bound, which no
// order of these changes.
func mayBe(d api.Desc) bool {
	ok := d.Id >= 1 && d.Id <= maxId && d.Gen >= 1 && d.Gen <= maxId && d.Next >= 1 && d.Next <= maxId
	ok = ok && len(d.Members) >= 1 && len(d.Members) <= 5 && len(d.Bound.From) <= 33 && (d.Bound.To == "" || d.Bound.To > d.Bound.From)
	for i, m := range d.Members {
		ok = ok && m.Id >= 1 && m.Id < d.Next && m.Node >= 1 && m.Node <= 7
		for _, ahead := range d.Members[:i] {
			ok = ok && ahead.Id < m.Id && ahead.Node != m.Node
		}
	}
	return ok
}

// behind is d behind o, as chapters 6 and 12 tell it.
func behind(d api.Desc, o api.Order) api.Desc {
	next := with(d, func(d *api.Desc) { d.Gen++ })
	switch {
	case o.Kind == api.OrAdd:
		next.Members = append(next.Members, api.Member{Node: o.Node, Id: d.Next})
		next.Next++
	case o.Kind == api.OrRemove:
		next.Members = slices.DeleteFunc(next.Members, func(m api.Member) bool { return m.Id == o.Id })
	}
	if !mayBe(d) || !mayBe(next) || len(next.Members) == len(d.Members) {
		return d
	}
	return next
}

// add and remove are such orders, of the client 5.
func add(node int) api.Order {
	return ask(api.Order{Kind: api.OrAdd, Key: "g", Node: node})
}

func remove(id int64) api.Order {
	return ask(api.Order{Kind: api.OrRemove, Key: "g", Id: id})
}

// ask is an order of the client 5, who has asked nothing so far.
func ask(o api.Order) api.Order {
	o.Client, o.Seq = 5, 1
	return o
}

// others are orders of all kinds but the two that change who the members are.
func others() []api.Order {
	return []api.Order{
		{},
		ask(api.Order{Kind: api.OrGet, Key: "g"}),
		ask(api.Order{Kind: api.OrPut, Key: "g", Value: "1"}),
		ask(api.Order{Kind: api.OrDel, Key: "g"}),
		ask(api.Order{Kind: api.OrSwap, Key: "g", Value: "1", Old: "vg", Has: true}),
		ask(api.Order{Kind: api.OrScan, Key: "g", To: "n", Limit: 3}),
		ask(api.Order{Kind: api.OrAlloc}),
		ask(api.Order{Kind: api.OrSplit, Key: "g", Id: 20}),
		ask(api.Order{Kind: api.OrFreeze, Key: "g"}),
		ask(api.Order{Kind: api.OrMerge, Key: "g", Value: deed.Put(beside())}),
		ask(api.Order{Kind: api.OrLook, Key: "g"}),
		ask(api.Order{Kind: api.OrMeta, Value: desc.Put(some()), Limit: 2}),
	}
}

// refused are OrAdds and OrRemoves that may not be, each but for one field as one
// that may.
func refused() []api.Order {
	var l []api.Order
	for _, o := range []api.Order{add(3), remove(3)} {
		for _, change := range []func(o *api.Order){
			func(o *api.Order) { o.Client = 0 },
			func(o *api.Order) { o.Client = -1 },
			func(o *api.Order) { o.Client = maxSeq + 1 },
			func(o *api.Order) { o.Seq = 0 },
			func(o *api.Order) { o.Seq = maxSeq + 1 },
			func(o *api.Order) { o.Seq = math.MinInt64 },
			func(o *api.Order) { o.Key = "" },
			func(o *api.Order) { o.Key = a(33) },
			func(o *api.Order) { o.To = "x" },
			func(o *api.Order) { o.Value = "x" },
			func(o *api.Order) { o.Old = "x" },
			func(o *api.Order) { o.Has = true },
			func(o *api.Order) { o.Limit = 1 },
			func(o *api.Order) { o.Node, o.Id = 3, 3 },
			func(o *api.Order) { o.Node, o.Id = o.Node*2+8, o.Id*maxId },
			func(o *api.Order) { o.Node, o.Id = 0, 0 },
			func(o *api.Order) { o.Node, o.Id = -o.Node, -o.Id },
		} {
			x := o
			change(&x)
			l = append(l, x)
		}
	}
	return l
}

// entries are entries whose Texts are these orders'.
func entries(orders ...api.Order) []api.Entry {
	var l []api.Entry
	for i, o := range orders {
		l = append(l, api.Entry{Term: int64(i/2 + 1), Text: order.Put(o)})
	}
	return l
}

// beside is a range from p to x, which is frozen, and may be joined to ground.
func beside() api.Plot {
	d := api.Desc{Id: 7, Bound: api.Bound{From: "p", To: "x"}, Gen: 20, Members: of(4, 5), Next: 6}
	return api.Plot{Desc: d, Pairs: []api.Pair{{Key: "q", Value: "vq"}}, Frozen: true}
}

// ground is a range with the descriptor d, of which two clients have asked
// something.
func ground(d api.Desc) api.Plot {
	return api.Plot{
		Desc:     d,
		Pairs:    []api.Pair{{Key: "g", Value: "vg"}, {Key: "m", Value: "vm"}},
		Sessions: []api.Session{{Client: 3, Seq: 5, Reply: api.Reply{Has: true, Value: "x"}}, {Client: 9, Seq: 1, Reply: api.Reply{Code: api.ReBad, Err: 60}}},
		Eaten:    []int64{6, 8},
	}
}

// same is whether two plots are alike, field by field.
func same(p, q api.Plot) bool {
	like := func(x, y api.Session) bool {
		return x.Client == y.Client && x.Seq == y.Seq && order.Same(x.Reply, y.Reply)
	}
	return equal(p.Desc, q.Desc) && slices.Equal(p.Pairs, q.Pairs) && slices.EqualFunc(p.Sessions, q.Sessions, like) &&
		p.Frozen == q.Frozen && slices.Equal(p.Eaten, q.Eaten) && p.Alloc == q.Alloc
}

// What stands in the room behind a list's end.
var (
	spareMember  = api.Member{Node: -77, Id: -77}
	sparePair    = api.Pair{Key: "spare", Value: "room"}
	spareEntry   = api.Entry{Term: -77, Text: "spare"}
	spareSession = api.Session{Client: -77, Seq: -77}
)

const spareId = int64(-77)

// room is l with room behind it, in which something stands.
func room[T any](l []T, spare T) []T {
	all := append(slices.Clone(l), spare, spare, spare)
	return all[: len(l) : len(l)+3]
}

// untouched fails, unless l, which room made of was, is as it was, its spare room
// too.
func untouched[T comparable](t *testing.T, what string, l, was []T, spare T) {
	t.Helper()
	if !slices.Equal(l, was) || !slices.Equal(l[len(l):cap(l)], []T{spare, spare, spare}) {
		t.Errorf("%s: what was handed in was changed: %s, not %s", what, show(l[:cap(l)]), show(was))
	}
}

// roomy is p with room behind each of its lists.
func roomy(p api.Plot) api.Plot {
	p.Desc.Members = room(p.Desc.Members, spareMember)
	p.Pairs = room(p.Pairs, sparePair)
	p.Sessions = room(p.Sessions, spareSession)
	p.Eaten = room(p.Eaten, spareId)
	return p
}

// still fails, unless p, which roomy made of was, is as it was.
func still(t *testing.T, what string, p, was api.Plot) {
	t.Helper()
	untouched(t, what, p.Desc.Members, was.Desc.Members, spareMember)
	untouched(t, what, p.Pairs, was.Pairs, sparePair)
	untouched(t, what, p.Eaten, was.Eaten, spareId)
	ok := same(p, was)
	for _, s := range p.Sessions[len(p.Sessions):cap(p.Sessions)] {
		ok = ok && s.Client == spareSession.Client && s.Seq == spareSession.Seq && order.Same(s.Reply, api.Reply{})
	}
	if !ok {
		t.Errorf("%s: what was handed in was changed: %s, not %s", what, show(p), show(was))
	}
}

// lists are all lists of n of these numbers.
func lists(n int, of []int64) [][]int64 {
	if n == 0 {
		return [][]int64{nil}
	}
	var l [][]int64
	for _, ahead := range lists(n-1, of) {
		for _, x := range of {
			l = append(l, append(slices.Clone(ahead), x))
		}
	}
	return l
}

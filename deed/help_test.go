package deed_test

import (
	"fmt"
	"math"
	"slices"
	"strconv"
	"strings"
	"testing"

	"furlong/api"
	"furlong/bound"
	"furlong/desc"
	"furlong/session"
)

const (
	maxId    = int64(1) << 40
	maxEaten = 200
)

// a is a text of n bytes.
func a(n int) string {
	return strings.Repeat("a", n)
}

// show tells what v is, in a line that is not too long.
func show(v any) string {
	s := fmt.Sprintf("%+v", v)
	return strconv.Quote(s[:min(len(s), 400)])
}

// pairs are pairs of these keys, each with its own value.
func pairs(keys ...string) []api.Pair {
	var l []api.Pair
	for _, k := range keys {
		l = append(l, api.Pair{Key: k, Value: "v" + k})
	}
	return l
}

// many are n pairs by rising keys between d and e.
func many(n int, value string) []api.Pair {
	var l []api.Pair
	for i := range n {
		l = append(l, api.Pair{Key: fmt.Sprintf("d%06d", i), Value: value})
	}
	return l
}

// clients are sessions of n clients, from the client first on.
func clients(first int64, n int) []api.Session {
	var l []api.Session
	for i := range int64(n) {
		l = append(l, api.Session{Client: first + i, Seq: 10, Reply: api.Reply{Has: true, Value: "s" + strconv.FormatInt(first+i, 10)}})
	}
	return l
}

// numbers are n numbers from first on.
func numbers(first int64, n int) []int64 {
	var l []int64
	for i := range int64(n) {
		l = append(l, first+i)
	}
	return l
}

// some is a range from c to p with three members, four pairs, one of which stands
// at its From, and two clients' sessions, that has eaten two others.
func some() api.Plot {
	return api.Plot{
		Desc:  api.Desc{Id: 4, Bound: api.Bound{From: "c", To: "p"}, Gen: 9, Members: []api.Member{{Node: 2, Id: 1}, {Node: 7, Id: 3}, {Node: 1, Id: 6}}, Next: 8},
		Pairs: pairs("c", "g", "m", "o\xff"),
		Sessions: []api.Session{
			{Client: 3, Seq: 5, Reply: api.Reply{Has: true, Value: "x"}},
			{Client: 9, Seq: 1, Reply: api.Reply{Code: api.ReBad, Err: 60}},
		},
		Eaten: []int64{6, 8},
		Alloc: 11,
	}
}

// beside is a range from p on, which may be joined to some.
func beside() api.Plot {
	return api.Plot{
		Desc:  api.Desc{Id: 7, Bound: api.Bound{From: "p", To: "x"}, Gen: 20, Members: []api.Member{{Node: 4, Id: 5}}, Next: 6},
		Pairs: pairs("p", "q", "w"),
		Sessions: []api.Session{
			{Client: 3, Seq: 6, Reply: api.Reply{Value: "later"}},
			{Client: 4, Seq: 2, Reply: api.Reply{}},
			{Client: 9, Seq: 1, Reply: api.Reply{Value: "the other's"}},
		},
		Frozen: true,
		Eaten:  []int64{5, 8, 12},
		Alloc:  0,
	}
}

// with is p, changed, with lists of its own.
func with(p api.Plot, change func(p *api.Plot)) api.Plot {
	p = copied(p)
	change(&p)
	return p
}

// copied is p with lists of its own.
func copied(p api.Plot) api.Plot {
	p.Desc.Members = slices.Clone(p.Desc.Members)
	p.Pairs = slices.Clone(p.Pairs)
	p.Sessions = slices.Clone(p.Sessions)
	for i := range p.Sessions {
		p.Sessions[i].Reply.Pairs = slices.Clone(p.Sessions[i].Reply.Pairs)
	}
	p.Eaten = slices.Clone(p.Eaten)
	return p
}

// named is a plot, and what there is about it.
type named struct {
	name string
	p    api.Plot
}

// right are plots that may be, at the edges too.
func right() []named {
	l := []named{{"some", some()}, {"the one beside it", beside()}}
	first, _ := desc.First(1, 2, 3)
	l = append(l, named{"the first", api.Plot{Desc: first, Alloc: 1}})
	add := func(name string, change func(p *api.Plot)) {
		l = append(l, named{name, with(some(), change)})
	}
	add("nothing but its descriptor", func(p *api.Plot) { *p = api.Plot{Desc: p.Desc} })
	add("empty lists", func(p *api.Plot) {
		p.Pairs, p.Sessions, p.Eaten = []api.Pair{}, []api.Session{}, []int64{}
	})
	add("frozen", func(p *api.Plot) { p.Frozen = true })
	add("all keys", func(p *api.Plot) { p.Desc.Bound = api.Bound{} })
	for _, keys := range [][]string{
		nil, {"c"}, {"g"}, {"o\xff\xff"}, {"c", "c\x00"}, {"c\x00", "c\x00\x00", "c\x01"}, {"c" + a(31)}, {"c" + a(30), "c" + a(31)}, {"d", "d\x7f", "d\x80", "d\xff"},
	} {
		add("pairs at "+strconv.Quote(strings.Join(keys, " ")), func(p *api.Plot) { p.Pairs = pairs(keys...) })
	}
	add("just below its To", func(p *api.Plot) { p.Desc.Bound.To, p.Pairs = "p\x00", pairs("p") })
	add("the first and the last key", func(p *api.Plot) {
		p.Desc.Bound, p.Pairs = api.Bound{}, pairs("\x00", strings.Repeat("\xff", 32))
	})
	add("one key alone", func(p *api.Plot) { p.Desc.Bound, p.Pairs = api.Bound{From: "c", To: "c\x00"}, pairs("c") })
	for _, n := range []int{0, 1, 64, 65, 511, 512} {
		for i := range 4 {
			add("a Value of "+strconv.Itoa(n), func(p *api.Plot) { p.Pairs[i].Value = a(n) })
		}
	}
	add("texts that look like a knot's", func(p *api.Plot) {
		p.Pairs = []api.Pair{{Key: "c:1:,", Value: "1:1,"}, {Key: "d,", Value: "0:,"}, {Key: "e", Value: "\x00:\xff,"}}
	})
	add("64 sessions", func(p *api.Plot) { p.Sessions = clients(1, 64) })
	for _, n := range []int64{0, 1, 2, 4, maxId - 1, maxId} {
		add("an Alloc", func(p *api.Plot) { p.Alloc = n })
	}
	for _, e := range [][]int64{
		nil, {1}, {2}, {4}, {1, 2}, {1, maxId}, {maxId - 1, maxId}, {maxId}, numbers(1, 199), numbers(1, 200), numbers(maxId-199, 200),
	} {
		add("Eaten", func(p *api.Plot) { p.Eaten = e })
	}
	return l
}

// wrong are plots that may not be, each for the one thing that its name tells.
func wrong() []named {
	l := []named{{"zero", api.Plot{}}}
	add := func(name string, change func(p *api.Plot)) {
		l = append(l, named{name, with(some(), change)})
	}
	add("an Id", func(p *api.Plot) { p.Desc.Id = 0 })
	add("a Gen", func(p *api.Plot) { p.Desc.Gen = maxId + 1 })
	add("a Next", func(p *api.Plot) { p.Desc.Next = 6 })
	add("no Members", func(p *api.Plot) { p.Desc.Members = nil })
	add("a Member's Node", func(p *api.Plot) { p.Desc.Members[1].Node = 8 })
	add("a Bound", func(p *api.Plot) { p.Desc.Bound.From = "p" })
	add("a Bound, and no pairs", func(p *api.Plot) { p.Desc.Bound.From, p.Pairs = "p", nil })
	add("no Desc", func(p *api.Plot) { p.Desc = api.Desc{} })
	for _, keys := range wrongKeys() {
		add("pairs at "+show(keys), func(p *api.Plot) { p.Pairs = pairs(keys...) })
	}
	add("a key of 33 bytes within the bound", func(p *api.Plot) { p.Desc.Bound, p.Pairs = api.Bound{}, pairs(a(33)) })
	add("no key, within the bound", func(p *api.Plot) { p.Desc.Bound, p.Pairs = api.Bound{}, pairs("") })
	add("no key, ahead of others", func(p *api.Plot) { p.Desc.Bound, p.Pairs = api.Bound{}, pairs("", "c") })
	add("a key below From, where there is no To", func(p *api.Plot) { p.Desc.Bound.To, p.Pairs = "", pairs("b") })
	add("a key at To, where there is no From", func(p *api.Plot) { p.Desc.Bound.From, p.Pairs = "", pairs("p") })
	add("one key twice, with one value", func(p *api.Plot) { p.Pairs = slices.Repeat(pairs("g"), 2) })
	for _, n := range []int{513, 514, 1024, 65536, 1 << 20} {
		for i := range 4 {
			add("a Value of "+strconv.Itoa(n), func(p *api.Plot) { p.Pairs[i].Value = a(n) })
		}
	}
	add("zero pairs", func(p *api.Plot) { p.Pairs = make([]api.Pair, 100) })
	for _, s := range wrongSessions() {
		add("sessions", func(p *api.Plot) { p.Sessions = s })
	}
	for _, e := range wrongEaten() {
		add("Eaten", func(p *api.Plot) { p.Eaten = e })
	}
	for _, n := range []int64{-1, -2, maxId + 1, maxId + 2, 1 << 41, 1<<62 + 3, math.MaxInt64, math.MinInt64, math.MinInt64 + 3} {
		add("an Alloc of "+strconv.FormatInt(n, 10), func(p *api.Plot) { p.Alloc = n })
	}
	return l
}

// wrongKeys are keys that the pairs of a range from c to p may not have.
func wrongKeys() [][]string {
	return [][]string{
		{"g", "c"}, {"g", "g"}, {"c", "c"}, {"c", "g", "g"}, {"c", "g", "f"}, {"c", "g", "m", "l"}, {"c\x00", "c"}, {"d\xff", "d\x7f"}, {"c", "m", "g", "o"}, {"g", "c", "m"},
		{""}, {"", "c"}, {"c", ""}, {"c" + a(32)}, {"c", "c" + a(32), "d"}, {"c" + a(100000)},
		{"p"}, {"c", "p"}, {"p\x00"}, {"q"}, {"c", "o", "z"}, {"\xff"}, {"b"}, {"b\xff\xff"}, {"b", "c"}, {"\x00"}, {"C"}, {"a", "c", "g"},
	}
}

// wrongSessions are sessions that may not be.
func wrongSessions() [][]api.Session {
	return [][]api.Session{
		{{}}, {{Client: 1}}, {{Seq: 1}}, clients(1, 65), {{Client: 2, Seq: 1}, {Client: 2, Seq: 2}}, {{Client: 2, Seq: 1}, {Client: 1, Seq: 1}},
		{{Client: 1, Seq: 1, Reply: api.Reply{Code: 5}}}, {{Client: 1, Seq: 1, Reply: api.Reply{Value: a(513)}}},
		{{Client: 1, Seq: 1, Reply: api.Reply{Pairs: pairs("k")}}}, {{Client: 1<<40 + 1, Seq: 1}}, make([]api.Session, 100),
	}
}

// wrongEaten are numbers that no plot has eaten.
func wrongEaten() [][]int64 {
	l := [][]int64{
		numbers(1, 201), numbers(maxId-200, 201), numbers(1, 1000), {1, 1}, {6, 6, 8}, {6, 8, 8}, {2, 1}, {8, 6}, {6, 8, 7}, {maxId, maxId}, {maxId, 1},
		make([]int64, 1), make([]int64, 200), make([]int64, 201), slices.Repeat([]int64{3}, 200), append(numbers(2, 199), 1), append(numbers(1, 199), 199),
	}
	for _, n := range []int64{0, -1, -6, maxId + 1, maxId + 2, 1 << 41, 1<<62 + 1, math.MaxInt64, math.MinInt64, math.MinInt64 + 6} {
		l = append(l, []int64{n}, []int64{n, 8}, []int64{6, n}, []int64{6, 8, n}, []int64{n, 6, 8})
	}
	return l
}

// may is whether a plot may be, as the chapter tells it.
func may(p api.Plot) bool {
	if desc.Check(p.Desc) != api.OK || session.Check(p.Sessions) != api.OK {
		return false
	}
	for i, x := range p.Pairs {
		if i > 0 && p.Pairs[i-1].Key >= x.Key || bound.Key(x.Key) != api.OK || !bound.Has(p.Desc.Bound, x.Key) || len(x.Value) > 512 {
			return false
		}
	}
	for i, id := range p.Eaten {
		if i > 0 && p.Eaten[i-1] >= id || id < 1 || id > maxId {
			return false
		}
	}
	return len(p.Eaten) <= maxEaten && 0 <= p.Alloc && p.Alloc <= maxId
}

// strand is a text's strand.
func strand(s string) string {
	return strconv.Itoa(len(s)) + ":" + s + ","
}

// num is the text of a number.
func num(n int64) string {
	return strconv.FormatInt(n, 10)
}

// parts are the texts that are tied in a plot's text, as the chapter tells it.
func parts(p api.Plot) []string {
	var l, eaten strings.Builder
	for _, x := range p.Pairs {
		l.WriteString(strand(x.Key) + strand(x.Value))
	}
	for _, id := range p.Eaten {
		eaten.WriteString(strand(num(id)))
	}
	mark := "0"
	if p.Frozen {
		mark = "1"
	}
	return []string{desc.Put(p.Desc), l.String(), session.Put(p.Sessions), mark, eaten.String(), num(p.Alloc)}
}

// text is the text that the chapter says of a plot.
func text(p api.Plot) string {
	var b strings.Builder
	for _, s := range parts(p) {
		b.WriteString(strand(s))
	}
	return b.String()
}

// equal is whether two plots are alike, field by field.
func equal(p, q api.Plot) bool {
	return desc.Same(p.Desc, q.Desc) && slices.Equal(p.Pairs, q.Pairs) && slices.EqualFunc(p.Sessions, q.Sessions, like) &&
		p.Frozen == q.Frozen && slices.Equal(p.Eaten, q.Eaten) && p.Alloc == q.Alloc
}

// like is whether two sessions are alike, field by field.
func like(s, o api.Session) bool {
	x, y := s.Reply, o.Reply
	return s.Client == o.Client && s.Seq == o.Seq && x.Code == y.Code && x.Err == y.Err && x.Has == y.Has && x.Value == y.Value && slices.Equal(x.Pairs, y.Pairs)
}

// wants holds an answer against what it should be: with an error, against
// nothing at all.
func wants(t *testing.T, what string, got api.Plot, e api.Errno, want api.Plot, wantE api.Errno) {
	t.Helper()
	if wantE != api.OK {
		want = api.Plot{}
	}
	if e != wantE || !equal(got, want) {
		t.Errorf("%s: %s %d, not %s %d", what, show(got), e, show(want), wantE)
	}
}

// What stands in the room behind a list's end.
var (
	spareMember  = api.Member{Node: -77, Id: -77}
	sparePair    = api.Pair{Key: "spare", Value: "room"}
	spareSession = api.Session{Client: -77, Seq: -77}
)

const spareId = -77

// room is l with room behind it, in which something stands.
func room[T any](l []T, spare T) []T {
	all := append(slices.Clone(l), spare, spare)
	return all[: len(l) : len(l)+2]
}

// roomy is p with room behind each of its lists.
func roomy(p api.Plot) api.Plot {
	p.Desc.Members = room(p.Desc.Members, spareMember)
	p.Pairs = room(p.Pairs, sparePair)
	p.Sessions = room(p.Sessions, spareSession)
	for i, s := range p.Sessions {
		p.Sessions[i].Reply.Pairs = room(s.Reply.Pairs, sparePair)
	}
	p.Eaten = room(p.Eaten, spareId)
	return p
}

// behind is whether in the room behind l there still stands what did.
func behind[T comparable](l []T, spare T) bool {
	return slices.Equal(l[len(l):cap(l)], []T{spare, spare})
}

// alone fails, unless p, which roomy made of was, is as it was, also behind the
// answers were written over, one by one, and each of these is as it was until
// then.
func alone(t *testing.T, what string, p, was api.Plot, answers ...api.Plot) {
	t.Helper()
	var kept []api.Plot
	for _, q := range answers {
		kept = append(kept, copied(q))
	}
	for i, q := range answers {
		if !equal(q, kept[i]) {
			t.Errorf("%s: its answers share a list", what)
		}
		scribble(q)
	}
	ok := equal(p, was) && behind(p.Desc.Members, spareMember) && behind(p.Pairs, sparePair) && behind(p.Eaten, spareId)
	for _, s := range p.Sessions {
		ok = ok && behind(s.Reply.Pairs, sparePair)
	}
	for _, s := range p.Sessions[len(p.Sessions):cap(p.Sessions)] {
		ok = ok && like(s, spareSession)
	}
	if !ok {
		t.Errorf("%s: changed what was handed in", what)
	}
}

// fill writes over all of l, its spare room too.
func fill[T any](l []T, by T) {
	all := l[:cap(l)]
	for i := range all {
		all[i] = by
	}
}

// scribble writes over all of p's lists.
func scribble(p api.Plot) {
	fill(p.Desc.Members, api.Member{Node: -9, Id: -9})
	fill(p.Pairs, api.Pair{Key: "scribble", Value: "scribble"})
	for _, s := range p.Sessions[:cap(p.Sessions)] {
		fill(s.Reply.Pairs, api.Pair{Key: "scribble", Value: "scribble"})
	}
	fill(p.Sessions, api.Session{Client: -9, Seq: -9})
	fill(p.Eaten, -9)
}

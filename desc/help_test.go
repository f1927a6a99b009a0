package desc_test

import (
	"math"
	"slices"
	"strconv"
	"strings"
	"testing"

	"furlong/api"
	"furlong/desc"
)

const maxId = int64(1) << 40

// of is the bound between two texts.
func of(from, to string) api.Bound {
	return api.Bound{From: from, To: to}
}

// a is a text of n bytes.
func a(n int) string {
	return strings.Repeat("a", n)
}

// at is members on these nodes, with the numbers 1, 2, and so on.
func at(nodes ...int) []api.Member {
	var l []api.Member
	for i, node := range nodes {
		l = append(l, api.Member{Node: node, Id: int64(i + 1)})
	}
	return l
}

// ids is members with these numbers, on the nodes 1, 2, and so on.
func ids(numbers ...int64) []api.Member {
	var l []api.Member
	for i, id := range numbers {
		l = append(l, api.Member{Node: i + 1, Id: id})
	}
	return l
}

// some is a range from c to p, with three members, of which one came late and
// one has gone.
func some() api.Desc {
	return api.Desc{Id: 4, Bound: of("c", "p"), Gen: 9, Members: []api.Member{{Node: 2, Id: 1}, {Node: 7, Id: 3}, {Node: 1, Id: 6}}, Next: 8}
}

// with is d, changed.
func with(d api.Desc, change func(d *api.Desc)) api.Desc {
	d.Members = slices.Clone(d.Members)
	change(&d)
	return d
}

// named is a descriptor, and what there is about it.
type named struct {
	name string
	d    api.Desc
}

// right are descriptors that may be, at the edges too.
func right() []named {
	return []named{
		{"some", some()},
		{"first", api.Desc{Id: 1, Gen: 1, Members: at(1), Next: 2}},
		{"five members", api.Desc{Id: 1, Gen: 1, Members: at(1, 2, 3, 4, 5), Next: 6}},
		{"five members from above", api.Desc{Id: 2, Bound: of("m", ""), Gen: 3, Members: at(7, 6, 5, 4, 3), Next: 6}},
		{"Id 1", with(some(), func(d *api.Desc) { d.Id = 1 })},
		{"Id MaxId", with(some(), func(d *api.Desc) { d.Id = maxId })},
		{"Id MaxId - 1", with(some(), func(d *api.Desc) { d.Id = maxId - 1 })},
		{"Gen 1", with(some(), func(d *api.Desc) { d.Gen = 1 })},
		{"Gen MaxId", with(some(), func(d *api.Desc) { d.Gen = maxId })},
		{"Gen MaxId - 1", with(some(), func(d *api.Desc) { d.Gen = maxId - 1 })},
		{"Next just behind", with(some(), func(d *api.Desc) { d.Next = 7 })},
		{"Next MaxId", with(some(), func(d *api.Desc) { d.Next = maxId })},
		{"Next MaxId - 1", with(some(), func(d *api.Desc) { d.Next = maxId - 1 })},
		{"Next 2", with(some(), func(d *api.Desc) { d.Members, d.Next = at(7), 2 })},
		{"the greatest member", with(some(), func(d *api.Desc) { d.Members[2].Id, d.Next = maxId-1, maxId })},
		{"all keys", with(some(), func(d *api.Desc) { d.Bound = of("", "") })},
		{"from the first key", with(some(), func(d *api.Desc) { d.Bound = of("", "p") })},
		{"to the last key", with(some(), func(d *api.Desc) { d.Bound = of("c", "") })},
		{"one text", with(some(), func(d *api.Desc) { d.Bound = of("c", "c\x00") })},
		{"long ends", with(some(), func(d *api.Desc) { d.Bound = of(a(33), "b"+a(32)) })},
		{"ends that look like a text", with(some(), func(d *api.Desc) { d.Bound = of("1:,", "1:1,2:") })},
	}
}

// wrong are descriptors that may not be, each for the one thing that its name
// tells.
func wrong() []named {
	l := []named{{"zero", api.Desc{}}}
	for _, n := range []int64{0, -1, -4, maxId + 1, 1 << 41, 1<<62 + 4, math.MaxInt64, math.MinInt64, math.MinInt64 + 4} {
		l = append(l,
			named{"Id " + strconv.FormatInt(n, 10), with(some(), func(d *api.Desc) { d.Id = n })},
			named{"Gen " + strconv.FormatInt(n, 10), with(some(), func(d *api.Desc) { d.Gen = n })},
			named{"Next " + strconv.FormatInt(n, 10), with(some(), func(d *api.Desc) { d.Next = n })},
		)
	}
	for _, b := range []api.Bound{
		of("p", "c"), of("c", "c"), of("c", "b\xff"), of("\x00", "\x00"), of(a(34), ""), of(a(34), "b"), of("", a(34)), of("a", a(34)), of(a(100000), ""),
	} {
		l = append(l, named{"a Bound", with(some(), func(d *api.Desc) { d.Bound = b })})
	}
	for _, next := range []int64{1, 2, 5, 6} {
		l = append(l, named{"a Member's Id is Next or more", with(some(), func(d *api.Desc) { d.Next = next })})
	}
	for _, m := range wrongMembers() {
		l = append(l, named{"Members", with(some(), func(d *api.Desc) { d.Members = m })})
	}
	return l
}

// wrongMembers are those that no range with a Next of 8 may have.
func wrongMembers() [][]api.Member {
	l := [][]api.Member{
		nil, {}, at(1, 2, 3, 4, 5, 6), at(1, 2, 3, 4, 5, 6, 7), make([]api.Member, 1), make([]api.Member, 100000),
		at(1, 1), at(1, 2, 1), at(1, 2, 2), at(7, 6, 7), at(1, 2, 3, 4, 1), at(1, 2, 3, 4, 4),
		ids(1, 1), ids(2, 1), ids(1, 3, 2), ids(1, 3, 3), ids(2, 1, 3), ids(3, 3, 4), ids(7, 6, 5),
		ids(8), ids(9), ids(1, 8), ids(8, 9), ids(1, maxId), ids(1, maxId+1), ids(1, math.MaxInt64),
		ids(0), ids(-1), ids(0, 1), ids(-1, 1), ids(-2, -1), ids(1, -1), ids(1, 0), ids(math.MinInt64), ids(math.MinInt64, 1),
	}
	for _, node := range noNodes() {
		for i := range 3 {
			m := at(1, 2, 3)
			m[i].Node = node
			l = append(l, m)
		}
		l = append(l, at(node))
	}
	return l
}

// noNodes are numbers of no node, those among them that would be one, if they
// were cut off.
func noNodes() []int {
	return []int{0, 8, 9, 255, 256, 257, 263, -1, -7, -8, -255, -254, 1<<16 + 1, 1<<31 + 1, 1<<32 + 1, 1<<32 + 7, -1<<32 + 1, math.MaxInt, math.MinInt, math.MinInt + 1}
}

// mayBe is what the chapter says of a descriptor that may be.
func mayBe(d api.Desc) bool {
	for _, n := range []int64{d.Id, d.Gen, d.Next} {
		if n < 1 || n > maxId {
			return false
		}
	}
	if len(d.Bound.From) > 33 || len(d.Bound.To) > 33 || d.Bound.To != "" && d.Bound.To <= d.Bound.From {
		return false
	}
	nodes := map[int]int{}
	for i, m := range d.Members {
		nodes[m.Node]++
		if m.Id < 1 || m.Id > d.Next-1 || m.Node < 1 || m.Node > 7 || nodes[m.Node] > 1 {
			return false
		}
		for _, ahead := range d.Members[:i] {
			if ahead.Id >= m.Id {
				return false
			}
		}
	}
	return len(d.Members) >= 1 && len(d.Members) <= 5
}

// equal is whether two descriptors are alike, field by field.
func equal(a, b api.Desc) bool {
	if len(a.Members) != len(b.Members) {
		return false
	}
	for i, m := range a.Members {
		if m.Node != b.Members[i].Node || m.Id != b.Members[i].Id {
			return false
		}
	}
	return a.Id == b.Id && a.Bound.From == b.Bound.From && a.Bound.To == b.Bound.To && a.Gen == b.Gen && a.Next == b.Next
}

// wants holds an answer against what it should be: with an error, against
// nothing at all.
func wants(t *testing.T, what string, got api.Desc, e api.Errno, want api.Desc, wantE api.Errno) {
	t.Helper()
	if wantE != api.OK {
		want = api.Desc{}
	}
	if e != wantE || !equal(got, want) {
		t.Errorf("%s: %+v %d, not %+v %d", what, got, e, want, wantE)
	}
}

// spare stands in the room behind a list's end.
var spare = api.Member{Node: -77, Id: -77}

// roomy is d with room behind its members, in which something stands.
func roomy(d api.Desc) api.Desc {
	l := append(slices.Clone(d.Members), spare, spare, spare)
	d.Members = l[:len(d.Members)]
	return d
}

// alone fails, unless d, which roomy made of was, is as it was, its spare room
// too, and the answer has none of its list.
func alone(t *testing.T, what string, d, was api.Desc, answers ...api.Desc) {
	t.Helper()
	for i, r := range answers {
		for j := range r.Members[:cap(r.Members)] {
			r.Members[:cap(r.Members)][j] = api.Member{Node: -i - 1, Id: -5}
		}
	}
	all := d.Members[:len(d.Members)+3]
	if !equal(d, was) || !slices.Equal(all[len(d.Members):], []api.Member{spare, spare, spare}) {
		t.Errorf("%s: changed %+v, its list to %+v", what, was, all)
	}
	for i, r := range answers {
		for _, m := range r.Members {
			if m.Node != -i-1 {
				t.Errorf("%s: its answers share a list", what)
			}
		}
	}
}

// must is d, which there has to be.
func must(t *testing.T) func(d api.Desc, e api.Errno) api.Desc {
	return func(d api.Desc, e api.Errno) api.Desc {
		t.Helper()
		if e != api.OK || desc.Check(d) != api.OK {
			t.Fatalf("%+v %d", d, e)
		}
		return d
	}
}

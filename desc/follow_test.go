package desc_test

import (
	"slices"
	"testing"

	"furlong/api"
	"furlong/desc"
)

// changed are all descriptors that one change leads to from d.
func changed(d api.Desc) []api.Desc {
	var l []api.Desc
	take := func(next api.Desc, e api.Errno) {
		if e == api.OK {
			l = append(l, next)
		}
	}
	for node := range 9 {
		take(desc.Add(d, node))
	}
	for id := int64(0); id <= d.Next; id++ {
		take(desc.Remove(d, id))
	}
	for _, key := range []string{"g", "m"} {
		left, right, e := desc.Split(d, key, d.Id+1)
		take(left, e)
		take(right, e)
	}
	return l
}

// walk goes through all descriptors that steps changes lead to from d.
func walk(d api.Desc, steps int, visit func(d, next api.Desc)) {
	if steps == 0 {
		return
	}
	for _, next := range changed(d) {
		visit(d, next)
		walk(next, steps-1, visit)
	}
}

func TestP6_6EachChangeRaisesGen(t *testing.T) {
	count := 0
	walk(must(t)(desc.First(1, 2)), 4, func(d, next api.Desc) {
		count++
		if !mayBe(next) || next.Gen != d.Gen+1 || next.Next < d.Next {
			t.Fatalf("%+v leads to %+v", d, next)
		}
	})
	if count < 1000 {
		t.Error(count)
	}
}

func TestP6_6MergeRaisesGenOfBoth(t *testing.T) {
	d := must(t)(desc.First(1, 2, 3))
	l, r, e := desc.Split(d, "m", 2)
	if e != api.OK {
		t.Fatal(e)
	}
	walk(l, 2, func(_, l api.Desc) {
		for _, r := range append(changed(r), r) {
			m, e := desc.Merge(l, r)
			if l.Bound.To != r.Bound.From || l.Id == r.Id {
				continue
			}
			if e != api.OK || m.Gen <= l.Gen || m.Gen <= r.Gen || m.Next != l.Next || !slices.Equal(m.Members, l.Members) {
				t.Fatalf("Merge(%+v, %+v): %+v %d", l, r, m, e)
			}
		}
	})
}

// Whoever has left comes again with a number that nobody had.
func TestP6_6NoMembersIdComesAgain(t *testing.T) {
	d := must(t)(desc.First(1, 2, 3))
	had := map[int64]int{1: 1, 2: 2, 3: 3}
	for round := range 200 {
		node := round%7 + 1
		if m, there := desc.On(d, node); there {
			d = must(t)(desc.Remove(d, m.Id))
		}
		if len(d.Members) == 5 {
			d = must(t)(desc.Remove(d, d.Members[round%5].Id))
		}
		d = must(t)(desc.Add(d, node))
		m, there := desc.On(d, node)
		if who, twice := had[m.Id]; !there || twice {
			t.Fatalf("round %d: %+v, as on node %d", round, m, who)
		}
		had[m.Id] = node
	}
}

// The last one that came is gone for good, too, when it is removed at once.
func TestP6_6TheLastIdDoesNotComeAgain(t *testing.T) {
	d := must(t)(desc.First(1, 2))
	d = must(t)(desc.Add(d, 3))
	d = must(t)(desc.Remove(d, 3))
	d = must(t)(desc.Add(d, 3))
	want := api.Desc{Id: 1, Gen: 4, Members: []api.Member{{Node: 1, Id: 1}, {Node: 2, Id: 2}, {Node: 3, Id: 4}}, Next: 5}
	wants(t, "added, removed, added", d, desc.Check(d), want, api.OK)
}

func TestP6_6AddedAndRemovedLeavesTheMembers(t *testing.T) {
	start := must(t)(desc.First(1, 2))
	walk(start, 3, func(_, d api.Desc) {
		for node := 1; node <= 7; node++ {
			more, e := desc.Add(d, node)
			if e != api.OK {
				continue
			}
			back := must(t)(desc.Remove(more, d.Next))
			want := with(d, func(d *api.Desc) { d.Gen, d.Next = d.Gen+2, d.Next+1 })
			wants(t, "added and removed", back, api.OK, want, api.OK)
		}
	})
}

func TestP6_7SplitAndMergedHasItsKeys(t *testing.T) {
	ends := []string{"", "\x00", "c", "c\x00", "m", "p", "\xff", a(32), a(33)}
	keys := []string{"\x00", "a", "c", "c\x00", "d", "m", "o\xff", "p", "p\x00", "\xff", "\xff\xff", a(31), a(32)}
	count := 0
	for _, from := range ends {
		for _, to := range ends {
			d := with(some(), func(d *api.Desc) { d.Bound = of(from, to) })
			if desc.Check(d) != api.OK {
				continue
			}
			for _, key := range keys {
				l, r, e := desc.Split(d, key, 5)
				if e != api.OK {
					continue
				}
				count++
				m, e := desc.Merge(l, r)
				wants(t, "split and merged", m, e, with(d, func(d *api.Desc) { d.Gen += 2 }), api.OK)
			}
		}
	}
	if count < 100 {
		t.Error(count)
	}
}

// What becomes of the parts in between, other than that they are split, leaves
// the keys as they were.
func TestP6_7SplitAndChangedAndMergedHasItsKeys(t *testing.T) {
	l, r, e := desc.Split(must(t)(desc.First(1, 2, 3)), "m", 2)
	if e != api.OK {
		t.Fatal(e)
	}
	count := 0
	walk(l, 2, func(_, l api.Desc) {
		walk(r, 2, func(_, r api.Desc) {
			if l.Bound != of("", "m") || r.Bound != of("m", "") {
				return
			}
			count++
			m, e := desc.Merge(l, r)
			if e != api.OK || m.Bound != of("", "") || m.Id != 1 {
				t.Fatalf("Merge(%+v, %+v): %+v %d", l, r, m, e)
			}
		})
	})
	if count < 100 {
		t.Error(count)
	}
}

// The chapter's example.
func TestP6_2TheExampleOfTheChapter(t *testing.T) {
	l, r, e := desc.Split(must(t)(desc.First(1, 2, 3)), "m", 2)
	wants(t, "left", l, e, api.Desc{Id: 1, Bound: of("", "m"), Gen: 2, Members: at(1, 2, 3), Next: 4}, api.OK)
	wants(t, "right", r, e, api.Desc{Id: 2, Bound: of("m", ""), Gen: 2, Members: at(1, 2, 3), Next: 4}, api.OK)
	more, e := desc.Add(l, 4)
	wants(t, "added", more, e, api.Desc{Id: 1, Bound: of("", "m"), Gen: 3, Members: at(1, 2, 3, 4), Next: 5}, api.OK)
}

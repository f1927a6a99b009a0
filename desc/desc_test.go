package desc_test

import (
	"slices"
	"testing"

	"furlong/api"
	"furlong/desc"
)

func TestP6_1CheckTakesWhatMayBe(t *testing.T) {
	for _, c := range right() {
		if e := desc.Check(c.d); e != api.OK {
			t.Errorf("%s: %d", c.name, e)
		}
	}
}

func TestP6_1CheckRefusesWhatMayNotBe(t *testing.T) {
	for _, c := range wrong() {
		if e := desc.Check(c.d); e != api.ErrDesc {
			t.Errorf("%s, %.200v: %d", c.name, c.d, e)
		}
	}
}

// Of all lists of a few members just those may be that the chapter says.
func TestP6_1CheckOfAllShortLists(t *testing.T) {
	var parts []api.Member
	for _, node := range []int{0, 1, 2, 7, 8} {
		for id := int64(0); id <= 5; id++ {
			parts = append(parts, api.Member{Node: node, Id: id})
		}
	}
	lists := [][]api.Member{nil}
	for range 4 {
		var longer [][]api.Member
		for _, l := range lists {
			for _, m := range parts {
				longer = append(longer, append(slices.Clone(l), m))
			}
		}
		for _, l := range longer {
			d := api.Desc{Id: 1, Gen: 1, Members: l, Next: 5}
			if got := desc.Check(d); (got == api.OK) != mayBe(d) || got != api.OK && got != api.ErrDesc {
				t.Fatalf("%+v: %d", d, got)
			}
		}
		// Of the longer lists only those are tried that begin as one may.
		lists = slices.DeleteFunc(longer, func(l []api.Member) bool {
			return len(l) > 1 && !mayBe(api.Desc{Id: 1, Gen: 1, Members: l, Next: 5})
		})
	}
}

func TestP6_1CheckOfAllNumbers(t *testing.T) {
	numbers := []int64{-1, 0, 1, 2, 3, maxId - 1, maxId, maxId + 1}
	for _, id := range numbers {
		for _, gen := range numbers {
			for _, next := range numbers {
				for _, first := range numbers {
					for _, last := range numbers {
						d := api.Desc{Id: id, Gen: gen, Members: []api.Member{{Node: 3, Id: first}, {Node: 2, Id: last}}, Next: next}
						if got := desc.Check(d); (got == api.OK) != mayBe(d) {
							t.Fatalf("%+v: %d", d, got)
						}
					}
				}
			}
		}
	}
}

func TestP6_1FirstIsOnTheseNodesInThisOrder(t *testing.T) {
	for _, nodes := range [][]int{{1}, {7}, {1, 2, 3}, {3, 1, 2}, {7, 1}, {1, 2, 3, 4, 5}, {7, 6, 5, 4, 3}, {2, 7, 4, 1, 6}} {
		got, e := desc.First(nodes...)
		want := api.Desc{Id: 1, Gen: 1, Members: at(nodes...), Next: int64(len(nodes)) + 1}
		wants(t, "First", got, e, want, api.OK)
	}
}

func TestP6_1FirstOfAllShortLists(t *testing.T) {
	lists := [][]int{{}}
	for range 5 {
		var longer [][]int
		for _, l := range lists {
			for node := 0; node <= 8; node++ {
				longer = append(longer, append(slices.Clone(l), node))
			}
		}
		for _, l := range longer {
			want, wantE := api.Desc{Id: 1, Gen: 1, Members: at(l...), Next: int64(len(l)) + 1}, api.ErrDesc
			if mayBe(want) {
				wantE = api.OK
			}
			got, e := desc.First(l...)
			wants(t, "First", got, e, want, wantE)
		}
		lists = longer
	}
}

func TestP6_1FirstRefusesWhatMayNotBe(t *testing.T) {
	lists := [][]int{nil, {}, {1, 1}, {1, 2, 3, 1}, {5, 5, 5, 5, 5}, {1, 2, 3, 4, 5, 6}, {1, 2, 3, 4, 5, 6, 7}, {1, 2, 3, 4, 5, 1}, make([]int, 1000000)}
	for _, node := range noNodes() {
		lists = append(lists, []int{node}, []int{node, 1}, []int{1, 2, node})
	}
	for _, l := range lists {
		got, e := desc.First(l...)
		wants(t, "First", got, e, api.Desc{}, api.ErrDesc)
	}
}

func TestP6_1FirstLeavesItsNodesAlone(t *testing.T) {
	room := []int{3, 1, 2, -77, -77}
	d, e := desc.First(room[:3]...)
	if !slices.Equal(room, []int{3, 1, 2, -77, -77}) {
		t.Error(room)
	}
	room[0], room[1], room[2] = 4, 5, 6
	wants(t, "First", d, e, api.Desc{Id: 1, Gen: 1, Members: at(3, 1, 2), Next: 4}, api.OK)
	again, e := desc.First(3, 1, 2)
	d.Members[0].Node = 7
	wants(t, "First, again", again, e, api.Desc{Id: 1, Gen: 1, Members: at(3, 1, 2), Next: 4}, api.OK)
}

func TestP6_1CheckLeavesItsListAlone(t *testing.T) {
	for _, c := range slices.Concat(right(), wrong()) {
		d := roomy(c.d)
		desc.Check(d)
		alone(t, "Check", d, c.d)
	}
}

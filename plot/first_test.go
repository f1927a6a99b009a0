package plot_test

import (
	"slices"
	"testing"

	"furlong/api"
	"furlong/deed"
	"furlong/desc"
	"furlong/plot"
)

func TestP10_1FirstOfNodesThatMayBe(t *testing.T) {
	for _, nodes := range [][]int{{1}, {7}, {4}, {1, 2, 3}, {3, 1, 2}, {7, 1}, {5, 4, 3, 2, 1}, {1, 2, 3, 4, 5}, {3, 4, 5, 6, 7}} {
		want := api.Plot{Desc: api.Desc{Id: 1, Gen: 1, Next: int64(len(nodes)) + 1}, Alloc: 1}
		for i, n := range nodes {
			want.Desc.Members = append(want.Desc.Members, api.Member{Node: n, Id: int64(i) + 1})
		}
		in := room(nodes, -77)
		p, e := plot.First(in...)
		if e != api.OK || !equal(p, want) {
			t.Errorf("First of %v: %s %d, not %s", nodes, show(p), e, show(want))
		}
		if deed.Check(p) != api.OK {
			t.Errorf("First of %v may not be", nodes)
		}
		if !slices.Equal(in, nodes) || !behind(in, -77) {
			t.Errorf("%v was changed: %v", nodes, in)
		}
	}
}

func TestP10_1FirstOfNodesThatMayNotBe(t *testing.T) {
	for _, nodes := range [][]int{
		nil, {}, {0}, {8}, {-1}, {1, 0}, {0, 1}, {1, 2, 8}, {1, 1}, {3, 2, 3}, {1, 2, 2}, {1, 2, 3, 4, 4},
		{1, 2, 3, 4, 5, 6}, {1, 2, 3, 4, 5, 6, 7}, {1, 2, 3, 4, 5, 5}, make([]int, 1000), {1 << 62}, {-1 << 63}, {1<<40 + 1},
	} {
		in := room(nodes, -77)
		p, e := plot.First(in...)
		_, want := desc.First(nodes...)
		if e != api.ErrDesc || e != want || !equal(p, api.Plot{}) {
			t.Errorf("First of %v: %s %d, not %d", nodes, show(p), e, want)
		}
		if !slices.Equal(in, nodes) || !behind(in, -77) {
			t.Errorf("%v was changed: %v", nodes, in)
		}
	}
}

// What was made of the nodes is not changed with them.
func TestP10_1TheNodesAreNotKept(t *testing.T) {
	nodes := []int{1, 2, 3}
	p, _ := plot.First(nodes...)
	nodes[0], nodes[1], nodes[2] = 5, 6, 7
	if q, _ := plot.First(1, 2, 3); !equal(p, q) {
		t.Error(show(p))
	}
	q, _ := plot.First(1, 2, 3)
	q.Desc.Members[0] = api.Member{}
	if o, _ := plot.First(1, 2, 3); !equal(p, o) {
		t.Error(show(o))
	}
}

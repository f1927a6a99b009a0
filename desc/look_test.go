package desc_test

import (
	"math"
	"slices"
	"testing"

	"furlong/api"
	"furlong/desc"
)

func TestP6_4OnIsTheMemberOnTheNode(t *testing.T) {
	for _, m := range some().Members {
		if got, ok := desc.On(some(), m.Node); got != m || !ok {
			t.Errorf("On(%d): %+v %v", m.Node, got, ok)
		}
	}
	for _, node := range append(noNodes(), 3, 4, 5, 6) {
		if got, ok := desc.On(some(), node); got != (api.Member{}) || ok {
			t.Errorf("On(%d): %+v %v", node, got, ok)
		}
	}
}

func TestP6_4HasIsTheMemberWithTheId(t *testing.T) {
	for _, m := range some().Members {
		if got, ok := desc.Has(some(), m.Id); got != m || !ok {
			t.Errorf("Has(%d): %+v %v", m.Id, got, ok)
		}
	}
	for _, id := range []int64{0, 2, 4, 5, 7, 8, 9, -1, -3, 1<<32 + 1, 1<<32 + 6, maxId, math.MaxInt64, math.MinInt64} {
		if got, ok := desc.Has(some(), id); got != (api.Member{}) || ok {
			t.Errorf("Has(%d): %+v %v", id, got, ok)
		}
	}
}

// Of a descriptor that may not be, too, something is answered: the first member
// of several.
func TestP6_4OnAndHasOfAnyDescriptor(t *testing.T) {
	for _, c := range slices.Concat(right(), wrong()) {
		for _, n := range []int64{0, 1, 2, 3, 6, 7, 8, -1, 1<<32 + 1, math.MaxInt64, math.MinInt64} {
			var on, has api.Member
			isOn, isThere := false, false
			for _, m := range slices.Backward(c.d.Members) {
				if int64(m.Node) == n {
					on, isOn = m, true
				}
				if m.Id == n {
					has, isThere = m, true
				}
			}
			if got, ok := desc.On(c.d, int(n)); got != on || ok != isOn {
				t.Errorf("%s: On(%d): %+v %v", c.name, n, got, ok)
			}
			if got, ok := desc.Has(c.d, n); got != has || ok != isThere {
				t.Errorf("%s: Has(%d): %+v %v", c.name, n, got, ok)
			}
		}
	}
}

func TestP6_4QuorumIsMoreThanHalf(t *testing.T) {
	for n, want := range []int{1, 1, 2, 2, 3, 3, 4, 4, 5} {
		if got := desc.Quorum(n); got != want {
			t.Errorf("Quorum(%d): %d, not %d", n, got, want)
		}
	}
	if got := desc.Quorum(math.MaxInt); got != math.MaxInt/2+1 {
		t.Errorf("Quorum of the greatest number: %d", got)
	}
	if got := desc.Quorum(math.MinInt); got != math.MinInt/2+1 {
		t.Errorf("Quorum of the least number: %d", got)
	}
	for n := -1000; n <= 1000; n++ {
		if got := desc.Quorum(n); 2*got <= n || 2*(got-1) > n {
			t.Errorf("Quorum(%d): %d", n, got)
		}
	}
}

func TestP6_4SameIsAlikeInAll(t *testing.T) {
	for i, c := range right() {
		if !desc.Same(c.d, roomy(c.d)) {
			t.Errorf("%s: not the same as itself", c.name)
		}
		for j, o := range right() {
			if want := equal(c.d, o.d); desc.Same(c.d, o.d) != want || want != (i == j) {
				t.Errorf("%s and %s: %v", c.name, o.name, !want)
			}
		}
	}
	for _, c := range wrong() {
		if !desc.Same(c.d, roomy(c.d)) {
			t.Errorf("%s: not the same as itself", c.name)
		}
	}
}

func TestP6_4SameTellsEachDifference(t *testing.T) {
	for i, change := range []func(d *api.Desc){
		func(d *api.Desc) { d.Id++ },
		func(d *api.Desc) { d.Gen++ },
		func(d *api.Desc) { d.Next++ },
		func(d *api.Desc) { d.Bound.From = "d" },
		func(d *api.Desc) { d.Bound.From = "" },
		func(d *api.Desc) { d.Bound.To = "o" },
		func(d *api.Desc) { d.Bound.To = "" },
		func(d *api.Desc) { d.Members[0].Node = 3 },
		func(d *api.Desc) { d.Members[0].Id = 2 },
		func(d *api.Desc) { d.Members[2].Node = 3 },
		func(d *api.Desc) { d.Members[2].Id = 7 },
		func(d *api.Desc) { d.Members = d.Members[:2] },
		func(d *api.Desc) { d.Members = d.Members[1:] },
		func(d *api.Desc) { d.Members = nil },
		func(d *api.Desc) { d.Members = append(d.Members, api.Member{Node: 3, Id: 7}) },
		func(d *api.Desc) { d.Members = append(d.Members, api.Member{}) },
		func(d *api.Desc) { slices.Reverse(d.Members) },
		func(d *api.Desc) { *d = api.Desc{} },
	} {
		d := with(some(), change)
		if desc.Same(d, some()) || desc.Same(some(), d) {
			t.Errorf("difference %d: %+v is the same", i, d)
		}
	}
}

func TestP6_4SameOfNoMembers(t *testing.T) {
	none := with(some(), func(d *api.Desc) { d.Members = nil })
	empty := with(some(), func(d *api.Desc) { d.Members = []api.Member{} })
	if !desc.Same(none, empty) || !desc.Same(empty, none) || !desc.Same(api.Desc{}, api.Desc{}) {
		t.Error("no members, and no members: not the same")
	}
}

func TestP6_4LooksLeaveTheirListsAlone(t *testing.T) {
	for _, c := range right() {
		d, o := roomy(c.d), roomy(some())
		desc.On(d, 3)
		desc.Has(d, 3)
		desc.Same(d, o)
		alone(t, "On, Has, Same", d, c.d)
		alone(t, "Same", o, some())
	}
}

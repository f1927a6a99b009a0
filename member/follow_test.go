package member_test

import (
	"testing"

	"furlong/api"
	"furlong/desc"
	"furlong/member"
)

// quorums are all sets of d's members, and of others, that are a quorum of d.
func quorums(d api.Desc) [][]int64 {
	var l [][]int64
	for set := range 1 << len(d.Members) {
		var ids []int64
		for i, m := range d.Members {
			if set>>i&1 == 1 {
				ids = append(ids, m.Id)
			}
		}
		if member.Count(d, ids) >= desc.Quorum(len(d.Members)) {
			l = append(l, ids)
		}
	}
	return l
}

// meet fails, unless each quorum of c and each one of d have a member in common.
func meet(t *testing.T, c, d api.Desc) {
	t.Helper()
	for _, x := range quorums(c) {
		for _, y := range quorums(d) {
			both := 0
			for _, id := range x {
				// Each of x is c's member; it counts, if it is d's, and y's, too.
				both += member.Count(api.Desc{Members: []api.Member{{Id: id}}}, y)
			}
			if both == 0 {
				t.Fatalf("%s of %s, and %s of %s", show(x), show(c), show(y), show(d))
			}
		}
	}
}

func TestP12_4TwoMeet(t *testing.T) {
	for _, d := range right() {
		meet(t, d, d)
		var l []api.Order
		for node := 1; node <= 7; node++ {
			l = append(l, add(node))
		}
		for _, m := range d.Members {
			l = append(l, remove(m.Id))
		}
		changed := 0
		for _, o := range l {
			next := member.Of(d, entries(o))
			if n := len(next.Members) - len(d.Members); n < -1 || n > 1 {
				t.Fatalf("%s of %s: %s", show(o), show(d), show(next))
			}
			if !equal(next, d) {
				changed++
			}
			meet(t, d, next)
		}
		if changed == 0 && d.Gen < maxId && len(d.Members) > 1 {
			t.Errorf("nothing changes %s", show(d))
		}
	}
}

// With two changes they need not meet: that is why there is one at a time.
func TestP12_4WithTwoChangesTheyNeedNot(t *testing.T) {
	apart := false
	two := member.Of(one(), entries(add(1), add(2)))
	for _, x := range quorums(one()) {
		for _, y := range quorums(two) {
			apart = apart || member.Count(api.Desc{Members: of(0, x[0])}, y) == 0
		}
	}
	if !apart {
		t.Fatal("one of one, and two of three, always meet")
	}
}

// What a majority has is agreed upon, and no more.
func TestP12_4WhatIsAgreedUponAQuorumHas(t *testing.T) {
	for n := 1; n <= 5; n++ {
		d, _ := desc.First([]int{1, 2, 3, 4, 5}[:n]...)
		for _, l := range lists(n, []int64{0, 3, 7, 8}) {
			at := member.Agreed(l...)
			reach := func(x int64) int {
				var ids []int64
				for i, have := range l {
					if have >= x {
						ids = append(ids, int64(i+1))
					}
				}
				return member.Count(d, ids)
			}
			if reach(at) < desc.Quorum(n) || reach(at+1) >= desc.Quorum(n) {
				t.Fatalf("Agreed(%s): %d", show(l), at)
			}
		}
	}
}

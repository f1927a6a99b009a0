package replica_test

import (
	"testing"

	"furlong/api"
	"furlong/desc"
	"furlong/order"
	"furlong/plot"
	"furlong/replica"
)

// refuses holds what Refuses answers against what it should, and what was handed in
// against what it was.
func refuses(t *testing.T, what string, r api.Replica, o api.Order, want api.Reply, is bool) {
	t.Helper()
	in := roomy(r)
	for range 2 {
		got, ok := replica.Refuses(in, o)
		if ok != is || !order.Same(got, want) {
			t.Fatalf("%s: Refuses of %s and %s: %s, %v", what, show(r), show(o), show(got), ok)
		}
		untouched(t, what, in, r)
	}
}

func TestP15_8Refuses(t *testing.T) {
	moved := api.Reply{Code: api.ReMoved, Value: desc.Put(three())}
	frozen := api.Reply{Code: api.ReFrozen, Value: desc.Put(three())}
	was := api.Reply{Value: "what it was"}
	replies := map[string]api.Reply{
		"there already":                          {Code: api.ReBad, Err: api.ErrThere},
		"no member":                              {Code: api.ReBad, Err: api.ErrNone},
		"the only one":                           {Code: api.ReBad, Err: api.ErrArg},
		"frozen":                                 frozen,
		"frozen, one less":                       frozen,
		"asked already":                          was,
		"asked already, one less":                was,
		"asked something later":                  {Code: api.ReOld},
		"of a key that lies elsewhere":           moved,
		"of a key that lies elsewhere, one less": moved,
	}
	for _, c := range refused() {
		want, there := replies[c.name]
		if !there {
			t.Fatalf("the test itself: %s", c.name)
		}
		refuses(t, c.name, c.r, c.o, want, true)
		_, reply, _ := plot.Apply(c.r.Plot, c.o)
		refuses(t, c.name, c.r, c.o, reply, true)
	}
	five := with(done(), func(r *api.Replica) { r.Plot = of(1, me, 5, 6, 7) })
	refuses(t, "too many", five, add(9, 7), api.Reply{Code: api.ReBad, Err: api.ErrMany}, true)
}

func TestP15_8WhatMayBeIsNotRefused(t *testing.T) {
	for _, o := range []api.Order{add(9, 7), add(9, 4), remove(9, 1), remove(9, me), remove(9, 6)} {
		refuses(t, "may be", done(), o, api.Reply{}, false)
	}
	refuses(t, "alone", single(), add(9, 7), api.Reply{}, false)
}

func TestP15_8OthersAreNotRefused(t *testing.T) {
	for _, o := range append(all(), mayNotBe()...) {
		for _, r := range []api.Replica{leader(), done(), single(), follower(), blank()} {
			refuses(t, "of another kind", r, o, api.Reply{}, false)
		}
		frozen := with(done(), func(r *api.Replica) { r.Plot.Frozen = true })
		refuses(t, "of another kind, frozen", frozen, o, api.Reply{}, false)
	}
}

func TestP15_8OneWhoDoesNotLeadRefusesNothing(t *testing.T) {
	for _, c := range refused() {
		for _, role := range []int{api.RoleFollower, api.RolePre, api.RoleCand} {
			refuses(t, c.name, with(c.r, func(r *api.Replica) { r.Raft.Role = role }), c.o, api.Reply{}, false)
		}
		for _, b := range blanks() {
			refuses(t, b.name, b.r, c.o, api.Reply{}, false)
		}
	}
}

// While not all is applied, nobody knows whether it would come to nothing.
func TestP15_8NotWhileSomethingIsToBeApplied(t *testing.T) {
	for _, c := range refused() {
		if len(c.r.Raft.Roll.Entries) == 0 {
			continue
		}
		for to := int64(3); to < 8; to++ {
			refuses(t, c.name, with(c.r, func(r *api.Replica) { r.Raft.Commit, r.Applied = to, to }), c.o, api.Reply{}, false)
		}
	}
}

// What is refused is not proposed, and of changes of members what one who leads, and
// has applied all, does not propose is refused.
func TestP15_8RefusedOrProposed(t *testing.T) {
	for _, c := range right() {
		for node := range 9 {
			for _, o := range []api.Order{add(9, node), remove(9, int64(node)), add(6, node), remove(6, int64(node))} {
				_, _, _, proposed := replica.Propose(c.r, o)
				_, is := replica.Refuses(c.r, o)
				last := c.r.Raft.Roll.Base + int64(len(c.r.Raft.Roll.Entries))
				ready := c.r.Plot.Desc.Id != 0 && c.r.Raft.Role == api.RoleLeader && c.r.Applied == last && last < maxIndex
				if proposed && is || ready && order.Check(o) == api.OK && proposed == is {
					t.Errorf("%s: %s: proposed %v, refused %v", c.name, show(o), proposed, is)
				}
			}
		}
	}
}

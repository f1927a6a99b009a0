package replica_test

import (
	"testing"

	"furlong/api"
	"furlong/deed"
	"furlong/knot"
	"furlong/order"
	"furlong/raft"
	"furlong/replica"
)

// three is the group that most rafts are in.
func three() api.Desc {
	return described(1, me, 6)
}

// told holds that r, which hears m, has applied all up to an index then.
func told(t *testing.T, what string, r api.Replica, m api.Wire, to int64) {
	t.Helper()
	want, wires, dones := heard(r, three(), m, to)
	if want.Raft.Commit != to || int64(len(dones)) != to-r.Applied {
		t.Fatalf("%s: the test itself: %s", what, show(want))
	}
	steps(t, what, r, m, want, wires, dones)
}

func TestP15_3AppliesWhatStandsForGood(t *testing.T) {
	for commit := int64(0); commit < 12; commit++ {
		told(t, "a Commit", follower(), behind(8, 4, commit), max(min(commit, 8), 5))
		told(t, "a Commit, of a log that was compacted", replica.Compact(follower()), behind(8, 4, commit), max(min(commit, 8), 5))
		told(t, "a Commit, and entries", follower(), behind(8, 4, commit, written(9, 5, 5)...), max(min(commit, 10), 5))
		told(t, "a Commit, and entries in the place of others", follower(), behind(6, 2, commit, written(7, 5, 5, 5)...), max(min(commit, 9), 5))
	}
}

func TestP15_3WhatIsDone(t *testing.T) {
	want := with(follower(), func(r *api.Replica) {
		r.Raft.Commit, r.Raft.Age, r.Applied = 7, 0, 7
		r.Plot.Pairs = []api.Pair{{Key: "c", Value: "1"}, {Key: "d", Value: "7"}, {Key: "g", Value: ""}, {Key: "o\xff", Value: a(512)}}
		r.Plot.Sessions = []api.Session{r.Plot.Sessions[0], {Client: 5, Seq: 7}, r.Plot.Sessions[1]}
	})
	dones := []api.Done{
		{Range: 4, Index: 6, Term: 2, Order: put(6, "d", "6")},
		{Range: 4, Index: 7, Term: 4, Order: put(7, "d", "7")},
	}
	steps(t, "two", follower(), behind(8, 4, 7), want, []api.Wire{came(8)}, dones)
}

func TestP15_3WhatIsReplied(t *testing.T) {
	split := api.Order{Kind: api.OrSplit, Client: client, Seq: 7, Key: "g", Id: 12}
	l := []api.Order{
		{Kind: api.OrGet, Client: client, Seq: 6, Key: "c"},
		split,
		{Kind: api.OrScan, Client: client, Seq: 8, Key: "c", Limit: 9},
		{Kind: api.OrGet, Client: client, Seq: 9, Key: "g"},
		put(7, "d", "x"),
		put(5, "d", "x"),
		{Kind: api.OrAlloc, Client: client, Seq: 10},
	}
	r := logged(l...)
	got, _, dones := replica.Step(r, behind(12, 4, 12))
	if len(dones) != 7 || got.Applied != 12 {
		t.Fatal(show(dones))
	}
	for i, d := range dones {
		if d.Range != 4 || d.Index != int64(6+i) || d.Term != 4 || d.Order != l[i] {
			t.Errorf("at %d: %s", i, show(d))
		}
		if plain := i != 1; plain && (d.Effect.Split || d.Effect.Eaten != 0 || d.Effect.Right.Desc.Id != 0) {
			t.Errorf("at %d: %s", i, show(d.Effect))
		}
	}
	replies := []api.Reply{
		{Has: true, Value: "1"},
		dones[1].Reply,
		{Pairs: []api.Pair{{Key: "c", Value: "1"}}, Value: "g"},
		{Code: api.ReMoved, Value: dones[3].Reply.Value},
		dones[1].Reply,
		{Code: api.ReOld},
		{Code: api.ReMoved, Value: dones[3].Reply.Value},
	}
	for i, d := range dones {
		if !order.Same(d.Reply, replies[i]) {
			t.Errorf("at %d: %s", i, show(d.Reply))
		}
	}
	right := dones[1].Effect.Right
	if !dones[1].Effect.Split || right.Desc.Id != 12 || right.Desc.Bound != (api.Bound{From: "g", To: "p"}) || len(right.Pairs) != 2 {
		t.Errorf("%s", show(dones[1]))
	}
	if got.Plot.Desc.Bound != (api.Bound{From: "c", To: "g"}) || len(got.Plot.Pairs) != 1 {
		t.Errorf("%s", show(got.Plot))
	}
	told(t, "all of that", r, behind(12, 4, 12), 12)
}

func TestP15_3Eats(t *testing.T) {
	beside := api.Plot{
		Desc:   api.Desc{Id: 7, Bound: api.Bound{From: "p", To: "x"}, Gen: 20, Members: []api.Member{{Node: 4, Id: 5}}, Next: 6},
		Pairs:  []api.Pair{{Key: "q", Value: "1"}},
		Frozen: true,
	}
	merge := api.Order{Kind: api.OrMerge, Client: client, Seq: 6, Key: "d", Value: deed.Put(beside)}
	r := logged(merge, api.Order{Kind: api.OrGet, Client: client, Seq: 7, Key: "q"})
	got, _, dones := replica.Step(r, behind(7, 4, 7))
	if len(dones) != 2 || dones[0].Effect.Eaten != 7 || dones[0].Effect.Split || dones[1].Effect.Eaten != 0 || !dones[1].Reply.Has {
		t.Errorf("%s", show(dones))
	}
	if got.Plot.Desc.Bound.To != "x" || got.Plot.Desc.Id != 4 {
		t.Errorf("%s", show(got.Plot))
	}
	told(t, "all of that", r, behind(7, 4, 7), 7)
}

func TestP15_3TextsOfNoOrders(t *testing.T) {
	bad := order.Put(put(6, "", "x"))
	for _, text := range []string{"", "x", bad, order.Put(put(6, "d", "x")) + "x", a(70), order.Put(put(6, "d", a(65)))} {
		r := with(follower(), func(r *api.Replica) { r.Raft.Roll.Entries[2].Text = text })
		want, wires, _ := heard(r, three(), behind(8, 4, 6), 6)
		want.Plot = some()
		steps(t, "no order's", r, behind(8, 4, 6), want, wires, []api.Done{{Range: 4, Index: 6, Term: 2}})
	}
	// As a leader writes it first.
	r := logged(api.Order{}, put(7, "d", "x"), api.Order{})
	want, wires, _ := heard(r, three(), behind(8, 4, 8), 8)
	steps(t, "of none", r, behind(8, 4, 8), want, wires, []api.Done{
		{Range: 4, Index: 6, Term: 4}, {Range: 4, Index: 7, Term: 4, Order: put(7, "d", "x")}, {Range: 4, Index: 8, Term: 4},
	})
}

func TestP15_3FarBelowCommit(t *testing.T) {
	terms := make([]int64, 500)
	for i := range terms {
		terms[i] = 5
	}
	told(t, "far below", follower(), behind(8, 4, 508, written(9, terms...)...), 508)
	far := with(follower(), func(r *api.Replica) { r.Raft.Roll.Entries = append(r.Raft.Roll.Entries, written(9, terms...)...) })
	told(t, "far below, of what was there", far, behind(508, 5, maxIndex), 508)
	told(t, "just below", with(far, func(r *api.Replica) { r.Raft.Commit, r.Applied = 507, 507 }), behind(508, 5, maxIndex), 508)
}

// A leader applies what it hears that a majority has.
func TestP15_3LeaderApplies(t *testing.T) {
	told(t, "of its Term", leader(), reached(7), 7)
	told(t, "all", leader(), reached(8), 8)
	told(t, "of another one's Term", leader(), reached(6), 5)
	got, wires, dones := replica.Step(leader(), reached(8))
	if got.Applied != 8 || len(dones) != 3 || len(wires) != 2 || wires[0].Commit != 8 {
		t.Errorf("%s %s", show(wires), show(dones))
	}
}

// What a leader says that applies a change of members which its log had already.
func TestP15_3ChangeThatItsLogHad(t *testing.T) {
	r := with(leader(), func(r *api.Replica) {
		r.Raft.Roll.Entries[4] = entry(4, remove(8, 6))
		r.Raft.Progress = r.Raft.Progress[:1]
	})
	want, wires, dones := heard(r, described(1, me), reached(8), 8)
	if len(want.Plot.Desc.Members) != 2 || len(wires) != 1 {
		t.Fatalf("the test itself: %s %s", show(want), show(wires))
	}
	steps(t, "gone", r, reached(8), want, wires, dones)
}

// expected is what becomes of r and what it says, when its raft, in the group ahead,
// has done something, and as soon as all up to an index is applied, others are its
// group, whom it tells.
func expected(r api.Replica, next api.Raft, wires []api.Wire, to int64, now api.Desc, then int64) (api.Replica, []api.Wire, []api.Done) {
	want := copied(r)
	want.Raft = next
	want, dones := applied(want, to)
	x, more := raft.Tell(want.Raft, now)
	want.Raft = x
	want, behind := applied(want, then)
	return want, append(wires, more...), append(dones, behind...)
}

// grownBy is the group of members with these Ids, when one on the node 7 is there,
// too.
func grownBy(ids ...int64) api.Desc {
	d := described(ids...)
	d.Members = append(d.Members, api.Member{Node: 7, Id: 8})
	d.Next, d.Gen = 9, 10
	return d
}

func TestP15_3ChangeThatALeaderProposes(t *testing.T) {
	for _, c := range []struct {
		name string
		o    api.Order
		now  api.Desc
		// Ahead, the two others are told of it; behind that, all but itself.
		said int
	}{
		{"one more", add(9, 7), grownBy(1, me, 6), 2 + 3},
		{"one less", remove(9, 6), described(1, me), 2 + 1},
		{"itself", remove(9, me), described(1, 6), 2 + 2},
	} {
		next, wires, ok := raft.Propose(done().Raft, three(), order.Put(c.o))
		if !ok || len(wires) != 2 {
			t.Fatal("the test itself")
		}
		want, wires, dones := expected(done(), next, wires, 8, c.now, 8)
		if len(wires) != c.said || len(dones) != 0 {
			t.Fatalf("the test itself: %s", show(wires))
		}
		proposes(t, c.name, done(), c.o, want, wires, dones)
	}
}

// One who is alone applies at once, and tells whoever comes then.
func TestP15_3ChangeThatALeaderApplies(t *testing.T) {
	o := add(2, 7)
	next, wires, ok := raft.Propose(single().Raft, described(me), order.Put(o))
	if !ok || len(wires) != 0 || next.Commit != 2 {
		t.Fatalf("the test itself: %s", show(next))
	}
	now := described(me)
	now.Members = append(now.Members, api.Member{Node: 7, Id: 8})
	want, wires, dones := expected(single(), next, wires, 2, now, 2)
	first := but(said(api.RaAppend, 8, 1), func(m *api.Wire) { m.Index, m.LogTerm, m.Commit = 2, 1, 2 })
	if len(wires) != 1 || !sameWire(wires[0], first) || len(dones) != 1 {
		t.Fatalf("the test itself: %s", show(wires))
	}
	proposes(t, "alone", single(), o, want, wires, dones)
}

// Of two the one that is left agrees with itself alone.
func TestP15_3ChangeByWhichTheOtherOneGoes(t *testing.T) {
	two := with(done(), func(r *api.Replica) { r.Plot, r.Raft.Progress = of(me, 6), r.Raft.Progress[1:] })
	o := remove(9, 6)
	next, wires, ok := raft.Propose(two.Raft, described(me, 6), order.Put(o))
	if !ok || len(wires) != 1 || next.Commit != 8 {
		t.Fatalf("the test itself: %s", show(next))
	}
	want, wires, dones := expected(two, next, wires, 8, described(me), 9)
	if len(wires) != 1 || len(dones) != 1 || dones[0].Index != 9 || want.Raft.Commit != 9 || len(want.Raft.Progress) != 0 {
		t.Fatalf("the test itself: %s %s", show(wires), show(dones))
	}
	proposes(t, "of two", two, o, want, wires, dones)
}

// By which the leader itself goes: the other one is who agrees then.
func TestP15_3ChangeByWhichTheLeaderGoes(t *testing.T) {
	two := with(done(), func(r *api.Replica) { r.Plot, r.Raft.Progress = of(me, 6), r.Raft.Progress[1:] })
	next, wires, _ := raft.Propose(two.Raft, described(me, 6), order.Put(remove(9, me)))
	want, wires, dones := expected(two, next, wires, 8, described(6), 8)
	if len(wires) != 2 || len(dones) != 0 || want.Raft.Role != api.RoleLeader {
		t.Fatalf("the test itself: %s %s", show(wires), show(dones))
	}
	proposes(t, "itself", two, remove(9, me), want, wires, dones)
	all := api.Wire{Kind: api.RaAppendOk, From: 6, To: me, Term: 4, Index: 9}
	gone, wires, dones := heard(want, described(6), all, 9)
	if len(dones) != 1 || len(gone.Plot.Desc.Members) != 1 || len(wires) != 1 {
		t.Fatalf("the test itself: %s %s", show(wires), show(dones))
	}
	steps(t, "that it is gone is applied", want, all, gone, wires, dones)
}

// A range does not do all that a log says: then those are its members that were
// before.
func TestP15_3ChangeThatComesToNothing(t *testing.T) {
	for _, c := range []struct {
		name string
		o    api.Order
	}{
		{"asked before", add(7, 7)},
		{"of a key that lies elsewhere", api.Order{Kind: api.OrAdd, Client: client, Seq: 8, Key: "z", Node: 7}},
	} {
		r := with(leader(), func(r *api.Replica) { r.Raft.Roll.Entries[4] = entry(4, c.o) })
		next, _ := raft.Step(r.Raft, grownBy(1, me, 6), reached(8))
		if next.Commit != 5 {
			t.Fatal("the test itself: one of four")
		}
		// With a second one of the others the four agree.
		r.Raft = next
		m := but(reached(8), func(m *api.Wire) { m.From = 6 })
		next, wires := raft.Step(r.Raft, grownBy(1, me, 6), m)
		want, wires, dones := expected(r, next, wires, 8, three(), 8)
		if next.Commit != 8 || len(wires) != 5 || len(want.Raft.Progress) != 2 || len(dones) != 3 {
			t.Fatalf("the test itself: %s %s", show(next), show(wires))
		}
		steps(t, c.name, r, m, want, wires, dones)
	}
	frozen := with(leader(), func(r *api.Replica) {
		r.Plot.Frozen, r.Raft.Roll.Entries[4] = true, entry(4, remove(8, 6))
		r.Raft.Progress = r.Raft.Progress[:1]
	})
	next, wires := raft.Step(frozen.Raft, described(1, me), reached(8))
	want, wires, dones := expected(frozen, next, wires, 8, three(), 8)
	if len(wires) != 3 || len(want.Raft.Progress) != 2 {
		t.Fatalf("the test itself: %s", show(wires))
	}
	steps(t, "frozen", frozen, reached(8), want, wires, dones)
}

// What a leader tells those who are the members then may be agreed upon at once, and
// then others again may be the members.
func TestP15_3ChangesOneBehindTheOther(t *testing.T) {
	elsewhere := func(seq int64, node int) api.Entry {
		return entry(4, api.Order{Kind: api.OrAdd, Client: client, Seq: seq, Key: "z", Node: node})
	}
	r := with(leader(), func(r *api.Replica) {
		r.Plot = of(1, me)
		r.Raft.Roll.Entries = append(written(4, 1, 2), elsewhere(6, 7), elsewhere(7, 5))
		r.Raft.Roll.Entries = append(r.Raft.Roll.Entries, written(8, 4, 4)...)
		r.Raft.Progress = []api.Progress{{Id: 1, Next: 9, Match: 8}, {Id: 8, Next: 7, Match: 5}, {Id: 9, Next: 10}}
	})
	group := func(more ...api.Member) api.Desc {
		d := described(1, me)
		d.Members = append(d.Members, more...)
		return d
	}
	m := api.Wire{Kind: api.RaAppendOk, From: 8, To: me, Term: 4, Index: 6}
	// Three of four have it up to 6. That is no member more, so that the next one has
	// its number; two of three have it up to 8. That is none more either.
	next, wires := raft.Step(r.Raft, group(api.Member{Node: 7, Id: 8}, api.Member{Node: 5, Id: 9}), m)
	want, wires, dones := expected(r, next, wires, 6, group(api.Member{Node: 5, Id: 8}), 8)
	want, wires, more := expected(want, want.Raft, wires, 8, group(), 8)
	if next.Commit != 6 || want.Raft.Commit != 8 || len(dones) != 3 || len(more) != 0 || len(want.Raft.Progress) != 1 || len(wires) != 3+2+2+1 {
		t.Fatalf("the test itself: %s %s %s", show(want), show(wires), show(dones))
	}
	steps(t, "both come to nothing", r, m, want, wires, dones)
}

// One that a follower applies is told nobody.
func TestP15_3ChangeThatAFollowerApplies(t *testing.T) {
	for _, o := range []api.Order{add(6, 7), remove(6, 6), remove(6, me), remove(6, 1), {Kind: api.OrAdd, Client: client, Seq: 6, Key: "z", Node: 7}} {
		r := logged(o)
		want, _, dones := heard(r, three(), behind(6, 4, 6), 6)
		steps(t, "a follower", r, behind(6, 4, 6), want, []api.Wire{came(6)}, dones)
		fresh := logged()
		m := behind(5, 2, 5, entry(5, o))
		want, _, _ = heard(fresh, three(), m, 5)
		steps(t, "a follower's log", fresh, m, want, []api.Wire{came(6)}, nil)
		m.Commit = 6
		want, _, dones = heard(fresh, three(), m, 6)
		steps(t, "both", fresh, m, want, []api.Wire{came(6)}, dones)
	}
}

// far is leader, whom the members of l are so far behind that it can tell them but
// a copy.
func far(l ...int64) api.Replica {
	return with(leader(), func(r *api.Replica) {
		for i, p := range r.Raft.Progress {
			for _, id := range l {
				if p.Id == id {
					r.Raft.Progress[i] = api.Progress{Id: id, Next: 2}
				}
			}
		}
		r.Raft.Age = 1
	})
}

// copyOf is a message with a copy of r as it is.
func copyOf(r api.Replica, to, term int64) api.Wire {
	return but(said(api.RaSnap, to, r.Raft.Term), func(m *api.Wire) { m.Index, m.LogTerm, m.Text = r.Applied, term, deed.Put(r.Plot) })
}

func TestP15_3CopiesThatAreSaid(t *testing.T) {
	for _, l := range [][]int64{{1}, {6}, {1, 6}} {
		for _, to := range []int64{3, 4, 5, 7, 8} {
			r, _ := applied(with(far(l...), func(r *api.Replica) { r.Applied = 3 }), to)
			r.Raft.Commit = to
			next, wires := raft.Tick(r.Raft, three(), 9)
			n := 0
			for i, m := range wires {
				if m.Kind == api.RaSnap {
					wires[i] = copyOf(r, m.To, map[int64]int64{3: 1, 4: 1, 5: 2, 7: 4, 8: 4}[to])
					n++
				}
			}
			if n != len(l) {
				t.Fatalf("the test itself: %s", show(wires))
			}
			want := r
			want.Raft = next
			ticks(t, "a copy", r, 9, want, wires, nil)
		}
	}
}

// A copy is of what the range is when all is done, which the same call applies.
func TestP15_3CopiesAreSaidBehindAll(t *testing.T) {
	r := far(6)
	next, wires := raft.Step(r.Raft, three(), reached(8))
	want := r
	want.Raft = next
	want, dones := applied(want, 8)
	if len(wires) != 2 || wires[1].Kind != api.RaSnap {
		t.Fatalf("the test itself: %s", show(wires))
	}
	wires[1] = copyOf(want, 6, 4)
	if wires[1].Index != 8 {
		t.Fatal("the test itself")
	}
	steps(t, "behind all", r, reached(8), want, wires, dones)
	// So also of what was said ahead of that.
	now := with(far(6), func(r *api.Replica) {
		r.Raft.Roll.Entries[4] = entry(4, api.Order{Kind: api.OrAdd, Client: client, Seq: 8, Key: "z", Node: 7})
	})
	now.Raft.Progress = append(now.Raft.Progress, api.Progress{Id: 8, Next: 9, Match: 8})
	next, wires = raft.Step(now.Raft, grownBy(1, me, 6), reached(8))
	want, wires, dones = expected(now, next, wires, 8, three(), 8)
	n := 0
	for i, m := range wires {
		if m.Kind == api.RaSnap {
			wires[i] = copyOf(want, 6, 4)
			n++
		}
	}
	if n != 2 || len(wires) != 5 {
		t.Fatalf("the test itself: %s", show(wires))
	}
	steps(t, "twice", now, reached(8), want, wires, dones)
}

func TestP15_3CopiesThatAreTooGreat(t *testing.T) {
	for n := mostCopy - 2; n <= mostCopy+2; n++ {
		for _, l := range [][]int64{{1}, {6}, {1, 6}} {
			r := with(far(l...), func(r *api.Replica) { r.Plot = great(n, 1, me, 6) })
			next, wires := raft.Tick(r.Raft, three(), 9)
			var out []api.Wire
			for _, m := range wires {
				switch {
				case m.Kind != api.RaSnap:
					out = append(out, m)
				case n <= mostCopy:
					out = append(out, copyOf(r, m.To, 2))
				}
			}
			want := r
			want.Raft = next
			ticks(t, "a great copy", r, 9, want, out, nil)
		}
	}
	// What it is when all is done tells, not what it was.
	o := put(8, "d00007", a(64))
	r := with(far(6), func(r *api.Replica) {
		r.Raft.Roll = api.Roll{Base: 5, BaseTerm: 2, Entries: []api.Entry{entry(2, api.Order{}), entry(4, api.Order{}), entry(4, o)}}
		r.Plot = great(mostCopy, 1, me, 6)
	})
	got, wires, dones := replica.Step(r, reached(8))
	if got.Applied != 8 || len(dones) != 3 || len(wires) != 2 || wires[1].Kind != api.RaSnap || len(wires[1].Text) >= mostCopy {
		t.Errorf("%s %s", show(wires), show(dones))
	}
	r.Raft.Roll.Entries[2] = entry(4, put(8, "e", a(64)))
	got, wires, dones = replica.Step(r, reached(8))
	if got.Applied != 8 || len(dones) != 3 || len(wires) != 1 || wires[0].To != 1 || wires[0].Kind != api.RaAppend {
		t.Errorf("%s %s", show(wires), show(dones))
	}
}

// The example of the chapter.
func TestP15_4OneMemberLeadsAndDoes(t *testing.T) {
	p := api.Plot{Desc: api.Desc{Id: 1, Gen: 1, Members: []api.Member{{Node: 1, Id: 1}}, Next: 2}, Alloc: 1}
	r := replica.From(p, 1, 0)
	for i := range api.LeastAge {
		next, wires, dones := replica.Tick(r, 0)
		if last := i == api.LeastAge-1; len(wires) != 0 || last != (len(dones) == 1) || last != (next.Applied == 2) {
			t.Fatalf("%d: %s %s", i, show(wires), show(dones))
		}
		r = next
	}
	o := api.Order{Kind: api.OrPut, Client: 1, Seq: 1, Key: "a", Value: "x"}
	r, wires, dones, ok := replica.Propose(r, o)
	if !ok || len(wires) != 0 || len(dones) != 1 || !sameDone(dones[0], api.Done{Range: 1, Index: 3, Term: 2, Order: o}) {
		t.Fatalf("%s %s", show(wires), show(dones))
	}
	r, _, dones, ok = replica.Propose(r, api.Order{Kind: api.OrAlloc, Client: 1, Seq: 2})
	if !ok || len(dones) != 1 || dones[0].Reply.Value != knot.Num(2) || r.Plot.Alloc != 2 || replica.Check(r) != api.OK {
		t.Fatalf("%s %s", show(r), show(dones))
	}
}

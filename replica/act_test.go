package replica_test

import (
	"math"
	"testing"

	"furlong/api"
	"furlong/deed"
	"furlong/desc"
	"furlong/order"
	"furlong/raft"
	"furlong/replica"
)

// asRaft holds that of m there comes to r just what comes to its raft, in the group
// d.
func asRaft(t *testing.T, what string, r api.Replica, d api.Desc, m api.Wire) {
	t.Helper()
	want, wires, _ := heard(r, d, m, r.Applied)
	steps(t, what, r, m, want, wires, nil)
}

// wires are messages of all kinds to me, of all Terms, but copies that are any.
func wires() []api.Wire {
	var l []api.Wire
	for kind := range 9 {
		for _, term := range []int64{0, 1, 4, 5, 6, maxTerm, maxTerm + 1} {
			for _, from := range []int64{1, 2, 6, me, 0} {
				m := api.Wire{Kind: kind, From: from, To: me, Term: term, Index: 8, LogTerm: 4, Hint: 3}
				l = append(l, m, but(m, func(m *api.Wire) { m.Reject = true }), but(m, func(m *api.Wire) { m.Index = 5 }), but(m, func(m *api.Wire) { m.To = 1 }))
			}
		}
	}
	return l
}

func TestP15_4StepIsAsItsRafts(t *testing.T) {
	asks := with(follower(), func(r *api.Replica) { r.Raft.Role, r.Raft.Granted, r.Raft.Lead = api.RolePre, []int64{me}, 0 })
	stands := with(asks, func(r *api.Replica) { r.Raft.Role, r.Raft.Vote = api.RoleCand, me })
	for _, r := range []api.Replica{follower(), asks, stands, with(follower(), func(r *api.Replica) { r.Raft.Lead = 0 })} {
		for _, m := range wires() {
			if m.Kind != api.RaSnap {
				asRaft(t, "as its raft", r, three(), m)
			}
		}
	}
	for _, m := range wires() {
		if m.Kind != api.RaSnap && m.Index == 5 {
			asRaft(t, "a leader", leader(), three(), m)
		}
	}
	for _, c := range blanks() {
		for _, m := range wires() {
			if m.Kind != api.RaSnap {
				m.To = c.r.Raft.Me
				asRaft(t, c.name, c.r, api.Desc{}, m)
			}
		}
	}
}

// Its group is the one that its log has already.
func TestP15_4GroupIsThatOfTheLog(t *testing.T) {
	more := with(logged(add(6, 7)), func(r *api.Replica) { r.Raft.Age, r.Raft.Lead = 9, 0 })
	next, wires := raft.Tick(more.Raft, grownBy(1, me, 6), 20)
	want := more
	want.Raft = next
	if len(wires) != 3 || wires[2].To != 8 {
		t.Fatalf("the test itself: %s", show(wires))
	}
	ticks(t, "one more", more, 20, want, wires, nil)
	// Two of four are not enough.
	asks := with(more, func(r *api.Replica) { r.Raft.Role, r.Raft.Granted, r.Raft.Age = api.RolePre, []int64{me}, 0 })
	ok := api.Wire{Kind: api.RaPreOk, From: 1, To: me, Term: 6}
	asRaft(t, "two of four", asks, grownBy(1, me, 6), ok)
	asks.Raft.Granted = []int64{1, me}
	asRaft(t, "three of four", asks, grownBy(1, me, 6), but(ok, func(m *api.Wire) { m.From = 8 }))
	less := with(logged(remove(6, me)), func(r *api.Replica) { r.Raft.Age = 9 })
	next, wires = raft.Tick(less.Raft, described(1, 6), 20)
	want = less
	want.Raft = next
	if len(wires) != 0 || next.Role != api.RoleFollower {
		t.Fatalf("the test itself: %s", show(wires))
	}
	ticks(t, "itself gone", less, 20, want, nil, nil)
}

func TestP15_4TickIsAsItsRafts(t *testing.T) {
	for _, r := range []api.Replica{follower(), leader(), done()} {
		for age := range 12 {
			for _, draw := range []int{-1, 0, 6, 9, 40, 41} {
				r := with(r, func(r *api.Replica) { r.Raft.Age = age })
				next, wires := raft.Tick(r.Raft, three(), draw)
				want := r
				want.Raft = next
				ticks(t, "as its raft", r, draw, want, wires, nil)
			}
		}
	}
	for _, c := range blanks() {
		for _, age := range []int{0, 1, 2, 8, 9, 10} {
			r := with(c.r, func(r *api.Replica) { r.Raft.Age = age })
			next, wires := raft.Tick(r.Raft, api.Desc{}, 20)
			want := r
			want.Raft = next
			ticks(t, c.name, r, 20, want, wires, nil)
			if next.Role != r.Raft.Role || next.Term != r.Raft.Term || len(wires) != 0 {
				t.Errorf("%s campaigns: %s %s", c.name, show(next), show(wires))
			}
		}
	}
}

// Alone, as soon as it has the age, it leads, and does all that its log has.
func TestP15_4TickDoes(t *testing.T) {
	r := with(follower(), func(r *api.Replica) { r.Plot, r.Raft.Age = of(me), 9 })
	next, wires := raft.Tick(r.Raft, described(me), 20)
	want := r
	want.Raft = next
	want, dones := applied(want, 9)
	if len(wires) != 0 || len(dones) != 4 || dones[3].Term != 6 || dones[3].Order.Kind != api.OrNone {
		t.Fatalf("the test itself: %s", show(dones))
	}
	ticks(t, "alone", r, 20, want, nil, dones)
}

// snapped is r when it has the range p in the place of what it had.
func snapped(r api.Replica, m api.Wire, p api.Plot) (api.Replica, []api.Wire) {
	want, wires, _ := heard(r, three(), m, r.Applied)
	want.Plot, want.Applied = p, m.Index
	return want, wires
}

// other is a range with the Id of some, but all else another one.
func other() api.Plot {
	p := of(1, 7)
	p.Desc.Bound, p.Pairs, p.Sessions, p.Eaten, p.Alloc = api.Bound{From: "", To: "e"}, []api.Pair{{Key: "b", Value: "2"}}, nil, nil, 33
	return p
}

func TestP15_4SnapIsTaken(t *testing.T) {
	frozen := other()
	frozen.Frozen = true
	for _, p := range []api.Plot{some(), other(), frozen, great(mostCopy+50, 1, 2)} {
		for _, r := range []api.Replica{follower(), done(), blank()} {
			for _, index := range []int64{9, 10, 99, maxIndex - 1, maxIndex} {
				for _, term := range []int64{1, 4, 5} {
					m := snap(index, term, deed.Put(p))
					want, wires := snapped(r, m, p)
					if len(wires) != 1 || !sameWire(wires[0], came(index)) || replica.Check(want) != api.OK {
						t.Fatalf("the test itself: %s", show(wires))
					}
					steps(t, "taken", r, m, want, wires, nil)
				}
			}
		}
	}
	// Above what is applied, but not above the log's end.
	for index := int64(6); index <= 8; index++ {
		m := snap(index, 2, deed.Put(other()))
		want, wires := snapped(follower(), m, other())
		steps(t, "in the log", follower(), m, want, wires, nil)
	}
	for index := int64(1); index <= 5; index++ {
		m := snap(index, 5, deed.Put(other()))
		want, wires := snapped(blank(), m, other())
		steps(t, "by a blank one", blank(), m, want, wires, nil)
	}
}

// A blank one takes whatever range it is, another one its own alone.
func TestP15_4SnapOfAnotherRange(t *testing.T) {
	for _, id := range []int64{1, 3, 5, maxId} {
		p := other()
		p.Desc.Id = id
		m := snap(9, 4, deed.Put(p))
		want, wires := snapped(blank(), m, p)
		steps(t, "by a blank one", blank(), m, want, wires, nil)
		nothing(t, "by another one", follower(), m)
		nothing(t, "by a leader", leader(), but(m, func(m *api.Wire) { m.Term = 6 }))
		nothing(t, "of a lesser Term", follower(), but(m, func(m *api.Wire) { m.Term = 1 }))
	}
}

func TestP15_4SnapOfNoRange(t *testing.T) {
	bad := some()
	bad.Desc.Gen = 0
	text := deed.Put(some())
	for _, text := range []string{"", "x", deed.Put(bad), deed.Put(api.Plot{}), text + "x", text[1:], text[:len(text)-1], " " + text} {
		for _, term := range []int64{1, 4, 5, 9} {
			for _, r := range []api.Replica{follower(), leader(), done(), blank()} {
				for _, index := range []int64{0, 5, 8, 9} {
					nothing(t, "no range's", r, but(snap(index, 4, text), func(m *api.Wire) { m.Term = term }))
				}
			}
		}
	}
}

// What its raft does not take, it does not have.
func TestP15_4SnapThatIsNotTaken(t *testing.T) {
	text := deed.Put(other())
	for _, index := range []int64{5, 4, 3, 1, 0, -1, maxIndex + 1, math.MaxInt64, math.MinInt64} {
		asRaft(t, "an index", follower(), three(), snap(index, 2, text))
		asRaft(t, "an index, without a log", replica.Compact(follower()), three(), snap(index, 2, text))
		if index < 1 || index > 5 {
			asRaft(t, "an index, by a blank one", blank(), api.Desc{}, snap(index, 2, text))
		}
	}
	for _, term := range []int64{0, -1, 6, maxTerm} {
		asRaft(t, "a term", follower(), three(), snap(9, term, text))
		asRaft(t, "a term, by a blank one", blank(), api.Desc{}, snap(9, term, text))
	}
	for _, change := range []func(m *api.Wire){
		func(m *api.Wire) { m.Term = 4 },
		func(m *api.Wire) { m.Term = 0 },
		func(m *api.Wire) { m.To = 1 },
		func(m *api.Wire) { m.From = me },
	} {
		asRaft(t, "of somebody else", follower(), three(), but(snap(9, 2, text), change))
	}
	asRaft(t, "by who leads in that Term", leader(), three(), but(snap(9, 2, text), func(m *api.Wire) { m.Term = 4 }))
	// What is applied already, as a base alone.
	base := with(follower(), func(r *api.Replica) { r.Raft.Roll = api.Roll{Base: 5, BaseTerm: 2} })
	asRaft(t, "its own base", base, three(), snap(5, 2, text))
}

func TestP15_4AppendToABlankOne(t *testing.T) {
	for _, c := range blanks() {
		for _, l := range [][]api.Entry{nil, written(1, 1), written(1, 1, 2, 5)} {
			for _, term := range []int64{0, 1, 5} {
				for _, commit := range []int64{0, 1, 9} {
					m := behind(0, term, commit, l...)
					m.To = c.r.Raft.Me
					nothing(t, c.name, c.r, m)
					m.Term = maxTerm
					nothing(t, c.name, c.r, m)
					for _, index := range []int64{1, 2, 9, maxIndex} {
						m := behind(index, term, commit, l...)
						m.To = c.r.Raft.Me
						asRaft(t, c.name, c.r, api.Desc{}, m)
					}
				}
			}
		}
	}
	next, wires, dones := replica.Step(blank(), behind(1, 1, 1))
	no := but(came(1), func(m *api.Wire) { m.Reject = true })
	if len(wires) != 1 || !sameWire(wires[0], no) || len(dones) != 0 || next.Raft.Lead != 1 {
		t.Errorf("%s", show(wires))
	}
}

// Of an index below 0 those entries are passed over that stand ahead of the first
// one; if more are there, a blank one would have a log.
func TestP15_4AppendFromBelowTheBeginning(t *testing.T) {
	for _, n := range []int64{1, 2, 3} {
		for have := range int64(6) {
			m := behind(-n, 1, 9, written(1-n, []int64{1, 1, 1, 1, 1, 1}[:have]...)...)
			if have > n {
				nothing(t, "below the beginning", blank(), m)
			} else {
				asRaft(t, "below the beginning, and no further", blank(), api.Desc{}, m)
			}
		}
	}
	for _, index := range []int64{-maxIndex, math.MinInt64 + 1, math.MinInt64} {
		asRaft(t, "far below the beginning", blank(), api.Desc{}, behind(index, 1, 9, written(1, 1, 1)...))
	}
}

func TestP15_4AppendFromTheBeginningToAnotherOne(t *testing.T) {
	whole := with(follower(), func(r *api.Replica) {
		r.Raft.Roll, r.Raft.Commit, r.Applied = api.Roll{Entries: written(1, 1, 1, 2)}, 1, 1
	})
	for commit := int64(0); commit < 4; commit++ {
		told(t, "from the beginning", whole, behind(0, 0, commit, written(1, 1, 1, 2)...), max(commit, 1))
	}
	asRaft(t, "none from the beginning", whole, three(), behind(0, 0, 3))
	asRaft(t, "from the beginning, that has gone", follower(), three(), behind(0, 0, 3, written(1, 1, 1, 1, 1, 2)...))
	told(t, "from the beginning, that has gone, and more", follower(), behind(0, 0, 9, written(1, 1, 1, 1, 1, 2, 2, 5)...), 7)
}

// asked is done, when it has proposed o, of which the group d is told.
func asked(t *testing.T, r api.Replica, d api.Desc, o api.Order) (api.Replica, []api.Wire) {
	t.Helper()
	next, wires, ok := raft.Propose(r.Raft, d, order.Put(o))
	if !ok {
		t.Fatal("the test itself")
	}
	want := copied(r)
	want.Raft = next
	return want, wires
}

// all are orders of all kinds, that may be.
func all() []api.Order {
	right := other()
	right.Frozen = true
	l := []api.Order{
		{Kind: api.OrGet, Key: "d"}, put(9, "d", "x"), {Kind: api.OrDel, Key: "d"}, {Kind: api.OrSwap, Key: "d", Value: "x"},
		{Kind: api.OrScan, Limit: 3}, {Kind: api.OrAlloc}, {Kind: api.OrSplit, Key: "d", Id: 9}, {Kind: api.OrFreeze, Key: "d"},
		{Kind: api.OrMerge, Key: "d", Value: deed.Put(right)}, {Kind: api.OrLook, Key: "d"},
		{Kind: api.OrMeta, Value: desc.Put(three()), Limit: 2},
		// What the range would not do is proposed all the same.
		{Kind: api.OrGet, Key: "z"}, put(1, "z", "x"), {Kind: api.OrSplit, Key: "z", Id: 2},
	}
	for i := range l {
		l[i].Client, l[i].Seq = client, 9
	}
	return l
}

func TestP15_4Propose(t *testing.T) {
	for _, o := range all() {
		for _, r := range []api.Replica{leader(), done()} {
			want, wires := asked(t, r, three(), o)
			proposes(t, "to others", r, o, want, wires, nil)
		}
		want, wires := asked(t, single(), described(me), o)
		want, dones := applied(want, 2)
		if len(dones) != 1 || dones[0].Index != 2 || dones[0].Order != o {
			t.Fatalf("the test itself: %s", show(dones))
		}
		proposes(t, "alone", single(), o, want, wires, dones)
	}
}

func TestP15_4ProposeToOneWhoDoesNotLead(t *testing.T) {
	for _, o := range append(all(), add(9, 7), remove(9, 1)) {
		for _, role := range []int{api.RoleFollower, api.RolePre, api.RoleCand} {
			declines(t, "does not lead", with(done(), func(r *api.Replica) { r.Raft.Role = role }), o)
		}
		full := with(done(), func(r *api.Replica) {
			r.Raft.Roll, r.Raft.Commit, r.Applied = api.Roll{Base: maxIndex, BaseTerm: 4}, maxIndex, maxIndex
		})
		declines(t, "its log is full", full, o)
		for _, c := range blanks() {
			declines(t, c.name, c.r, o)
		}
	}
}

// mayNotBe are orders that may not be, or are of none.
func mayNotBe() []api.Order {
	l := []api.Order{{}, {Kind: api.OrNone, Client: client, Seq: 9}, {Kind: 14}, {Kind: -1}, {Kind: 99, Client: client, Seq: 9}}
	for _, o := range append(all(), add(9, 7), remove(9, 1)) {
		x, y, z := o, o, o
		x.Client, y.Seq = 0, 0
		z.Key += a(34)
		w := o
		w.Limit += 200
		l = append(l, x, y, z, w)
	}
	return l
}

func TestP15_4ProposeOfWhatMayNotBe(t *testing.T) {
	for _, o := range mayNotBe() {
		for _, r := range []api.Replica{leader(), done(), single(), follower(), blank()} {
			declines(t, "may not be", r, o)
		}
	}
}

func TestP15_4ProposeChangesOfMembers(t *testing.T) {
	for _, o := range []api.Order{add(9, 7), add(9, 4), remove(9, 1), remove(9, me), remove(9, 6)} {
		next, wires := asked(t, done(), three(), o)
		got, out, dones, ok := replica.Propose(done(), o)
		if !ok || len(out) <= len(wires) || len(dones) != 0 || len(got.Raft.Roll.Entries) != len(next.Raft.Roll.Entries) {
			t.Errorf("%s: %v, says %s", show(o), ok, show(out))
		}
		// While something of the log is not applied, none.
		for to := int64(3); to < 8; to++ {
			declines(t, "not all is applied", with(done(), func(r *api.Replica) { r.Raft.Commit, r.Applied = to, to }), o)
		}
		declines(t, "another one behind", got, add(10, 5))
		declines(t, "another one behind, of the members that are", got, remove(10, 1))
		other := put(10, "d", "x")
		// But something else.
		if _, _, _, ok := replica.Propose(got, other); !ok {
			t.Errorf("%s: nothing else", show(o))
		}
	}
}

// What the range would not do is not proposed.
func TestP15_4ProposeChangesThatMayNotBe(t *testing.T) {
	five := with(done(), func(r *api.Replica) { r.Plot = of(1, me, 5, 6, 7) })
	for _, c := range refused() {
		declines(t, c.name, c.r, c.o)
	}
	declines(t, "too many", five, add(9, 7))
}

// refusal is a change of members that comes to nothing.
type refusal struct {
	name string
	r    api.Replica
	o    api.Order
}

// refused are such, to those who have applied all.
func refused() []refusal {
	frozen := with(done(), func(r *api.Replica) { r.Plot.Frozen = true })
	asked := with(done(), func(r *api.Replica) {
		r.Plot.Sessions = []api.Session{{Client: client, Seq: 9, Reply: api.Reply{Value: "what it was"}}}
	})
	elsewhere := add(9, 7)
	elsewhere.Key = "z"
	gone := remove(9, 1)
	gone.Key = "a"
	return []refusal{
		{"there already", done(), add(9, 2)},
		{"no member", done(), remove(9, 2)},
		{"the only one", single(), remove(9, me)},
		{"frozen", frozen, add(9, 7)},
		{"frozen, one less", frozen, remove(9, 1)},
		{"asked already", asked, add(9, 7)},
		{"asked already, one less", asked, remove(9, 1)},
		{"asked something later", asked, add(8, 7)},
		{"of a key that lies elsewhere", done(), elsewhere},
		{"of a key that lies elsewhere, one less", done(), gone},
	}
}

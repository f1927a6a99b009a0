package replica_test

import (
	"math"
	"testing"

	"furlong/api"
	"furlong/deed"
	"furlong/desc"
	"furlong/raft"
	"furlong/replica"
)

// named is a replica, and what there is about it.
type named struct {
	name string
	r    api.Replica
}

// blanks are blank replicas that may be.
func blanks() []named {
	var l []named
	for _, c := range []struct {
		name   string
		change func(r *api.Replica)
	}{
		{"as it is", func(r *api.Replica) {}},
		{"new", func(r *api.Replica) { *r = replica.New(me, 6) }},
		{"the least Me", func(r *api.Replica) { r.Raft.Me = 1 }},
		{"the greatest Me", func(r *api.Replica) { r.Raft.Me = maxId }},
		{"the greatest Term", func(r *api.Replica) { r.Raft.Term = maxTerm }},
		{"a Lead, an Age", func(r *api.Replica) { r.Raft.Lead, r.Raft.Age = 6, math.MaxInt }},
		{"that asks", func(r *api.Replica) { r.Raft.Role, r.Raft.Granted = api.RolePre, []int64{me} }},
		{"that stands", func(r *api.Replica) { r.Raft.Role, r.Raft.Granted = api.RoleCand, []int64{1, me} }},
		{"that leads", func(r *api.Replica) {
			r.Raft.Role, r.Raft.Progress = api.RoleLeader, []api.Progress{{Id: 1, Next: 1}, {Id: 6, Next: 5, Match: 4}}
		}},
		{"lists without elements", func(r *api.Replica) {
			r.Raft.Roll.Entries, r.Plot.Desc.Members, r.Plot.Pairs = []api.Entry{}, []api.Member{}, []api.Pair{}
			r.Plot.Sessions, r.Plot.Eaten = []api.Session{}, []int64{}
		}},
	} {
		l = append(l, named{"a blank one, " + c.name, with(blank(), c.change)})
	}
	return l
}

// right are replicas that may be, of all kinds.
func right() []named {
	l := blanks()
	for _, c := range []struct {
		name   string
		change func(r *api.Replica)
	}{
		{"as it is", func(r *api.Replica) {}},
		{"no entries", func(r *api.Replica) { r.Raft.Roll = api.Roll{Base: 5, BaseTerm: 2} }},
		{"all applied", func(r *api.Replica) { r.Raft.Commit, r.Applied = 8, 8 }},
		{"as far as the base alone", func(r *api.Replica) { r.Raft.Commit, r.Applied = 3, 3 }},
		{"a log from the beginning", func(r *api.Replica) {
			r.Raft.Roll, r.Raft.Commit, r.Applied = api.Roll{Entries: written(1, 1, 1, 2, 4)}, 1, 1
		}},
		{"the index 1, as the base", func(r *api.Replica) {
			r.Raft.Roll, r.Raft.Commit, r.Applied = api.Roll{Base: 1, BaseTerm: 1}, 1, 1
		}},
		{"the greatest index", func(r *api.Replica) {
			r.Raft.Roll, r.Raft.Commit, r.Applied = api.Roll{Base: maxIndex, BaseTerm: 4}, maxIndex, maxIndex
		}},
		{"the greatest Term", func(r *api.Replica) { r.Raft.Term = maxTerm }},
		{"frozen", func(r *api.Replica) { r.Plot.Frozen = true }},
		{"no pairs, no sessions", func(r *api.Replica) { r.Plot.Pairs, r.Plot.Sessions, r.Plot.Eaten = nil, nil, nil }},
		{"alone", func(r *api.Replica) { r.Plot = of(me) }},
		{"no member", func(r *api.Replica) { r.Plot = of(1, 6) }},
		{"that asks", func(r *api.Replica) { r.Raft.Role, r.Raft.Granted = api.RolePre, []int64{me} }},
		{"that stands", func(r *api.Replica) { r.Raft.Role, r.Raft.Granted = api.RoleCand, []int64{me} }},
		{"a member more behind what is applied", func(r *api.Replica) { r.Raft.Roll.Entries[3] = entry(4, add(7, 7)) }},
		{"a member less behind what is applied", func(r *api.Replica) { r.Raft.Roll.Entries[3] = entry(4, remove(7, me)) }},
		{"texts of no orders", func(r *api.Replica) { r.Raft.Roll.Entries[2].Text, r.Raft.Roll.Entries[3].Text = "", "x" }},
	} {
		l = append(l, named{"a follower, " + c.name, with(follower(), c.change)}, named{"a leader, " + c.name, with(leader(), c.change)})
	}
	return append(l, named{"alone, that leads", single()}, named{"that leads, and has applied all", done()})
}

// wrong are replicas that may not be, each but for one thing as one that may.
func wrong() []named {
	var l []named
	add := func(name string, r api.Replica, change func(r *api.Replica)) {
		l = append(l, named{name, with(r, change)})
	}
	for name, change := range map[string]func(r *api.Replica){
		"a Roll that has an entry":        func(r *api.Replica) { r.Raft.Roll.Entries = written(1, 1) },
		"a Roll that has a Base":          func(r *api.Replica) { r.Raft.Roll.Base, r.Raft.Commit = 1, 1 },
		"a Base, and all else of it":      func(r *api.Replica) { r.Raft.Roll.Base, r.Raft.Commit, r.Applied = 1, 1, 1 },
		"a Roll that has a BaseTerm":      func(r *api.Replica) { r.Raft.Roll.BaseTerm = 1 },
		"a Commit":                        func(r *api.Replica) { r.Raft.Roll.Entries, r.Raft.Commit = written(1, 1), 1 },
		"a Commit that is applied":        func(r *api.Replica) { r.Raft.Roll.Entries, r.Raft.Commit, r.Applied = written(1, 1), 1, 1 },
		"an Applied":                      func(r *api.Replica) { r.Applied = 1 },
		"an Applied below 0":              func(r *api.Replica) { r.Applied = -1 },
		"a Plot, but for its Id":          func(r *api.Replica) { r.Plot = some(); r.Plot.Desc.Id = 0 },
		"a Bound's From":                  func(r *api.Replica) { r.Plot.Desc.Bound.From = "a" },
		"a Bound's To":                    func(r *api.Replica) { r.Plot.Desc.Bound.To = "a" },
		"a Gen":                           func(r *api.Replica) { r.Plot.Desc.Gen = 1 },
		"a member":                        func(r *api.Replica) { r.Plot.Desc.Members = []api.Member{{Node: 1, Id: 1}} },
		"a member that is none":           func(r *api.Replica) { r.Plot.Desc.Members = []api.Member{{}} },
		"a Next":                          func(r *api.Replica) { r.Plot.Desc.Next = 1 },
		"a pair":                          func(r *api.Replica) { r.Plot.Pairs = []api.Pair{{Key: "a"}} },
		"a pair that is none":             func(r *api.Replica) { r.Plot.Pairs = []api.Pair{{}} },
		"a session":                       func(r *api.Replica) { r.Plot.Sessions = []api.Session{{Client: 1, Seq: 1}} },
		"a session that is none":          func(r *api.Replica) { r.Plot.Sessions = []api.Session{{}} },
		"frozen":                          func(r *api.Replica) { r.Plot.Frozen = true },
		"a range that it ate":             func(r *api.Replica) { r.Plot.Eaten = []int64{2} },
		"a range that is none":            func(r *api.Replica) { r.Plot.Eaten = []int64{0} },
		"an Alloc":                        func(r *api.Replica) { r.Plot.Alloc = 1 },
		"an Alloc below 0":                func(r *api.Replica) { r.Plot.Alloc = -1 },
		"a pair and a session":            func(r *api.Replica) { r.Plot.Pairs, r.Plot.Sessions = some().Pairs[:1], some().Sessions[:1] },
		"a pair and a range that it ate":  func(r *api.Replica) { r.Plot.Pairs, r.Plot.Eaten = some().Pairs[:1], []int64{2} },
		"a pair and an entry":             func(r *api.Replica) { r.Plot.Pairs, r.Raft.Roll.Entries = some().Pairs[:1], written(1, 1) },
		"no Me":                           func(r *api.Replica) { r.Raft.Me = 0 },
		"a Draw that is too small":        func(r *api.Replica) { r.Raft.Draw = 5 },
		"a Role that there is not":        func(r *api.Replica) { r.Raft.Role = 4 },
		"granted that do not rise":        func(r *api.Replica) { r.Raft.Granted = []int64{2, 2} },
		"a Vote that is too great":        func(r *api.Replica) { r.Raft.Vote = maxId + 1 },
		"an entry that stands for nought": func(r *api.Replica) { r.Raft.Roll.Entries = []api.Entry{{}} },
	} {
		add("blank: "+name, blank(), change)
	}
	for name, change := range map[string]func(r *api.Replica){
		"Applied one below Commit":      func(r *api.Replica) { r.Applied = 4 },
		"Applied far below Commit":      func(r *api.Replica) { r.Raft.Commit, r.Applied = 8, 3 },
		"Applied one above Commit":      func(r *api.Replica) { r.Applied = 6 },
		"Applied is the last index":     func(r *api.Replica) { r.Applied = 8 },
		"Applied behind the last index": func(r *api.Replica) { r.Applied = 9 },
		"Applied below the base":        func(r *api.Replica) { r.Applied = 2 },
		"an Applied of 0":               func(r *api.Replica) { r.Applied = 0 },
		"an Applied below 0":            func(r *api.Replica) { r.Applied = -1 },
		"the least Applied":             func(r *api.Replica) { r.Applied = math.MinInt64 },
		"the greatest Applied":          func(r *api.Replica) { r.Applied = math.MaxInt64 },
		"a Commit above Applied":        func(r *api.Replica) { r.Raft.Commit = 6 },
		"a Commit below Applied":        func(r *api.Replica) { r.Raft.Commit = 4 },
		"both behind the last index":    func(r *api.Replica) { r.Raft.Commit, r.Applied = 9, 9 },
		"both below the base":           func(r *api.Replica) { r.Raft.Commit, r.Applied = 2, 2 },
		"both the greatest":             func(r *api.Replica) { r.Raft.Commit, r.Applied = math.MaxInt64, math.MaxInt64 },
		"both 0":                        func(r *api.Replica) { r.Raft.Roll, r.Raft.Commit, r.Applied = api.Roll{}, 0, 0 },
		"both 0, with a log":            func(r *api.Replica) { r.Raft.Roll, r.Raft.Commit, r.Applied = api.Roll{Entries: written(1, 1)}, 0, 0 },
		"both below 0":                  func(r *api.Replica) { r.Raft.Commit, r.Applied = -1, -1 },
		"no Me":                         func(r *api.Replica) { r.Raft.Me = 0 },
		"a Me that is too great":        func(r *api.Replica) { r.Raft.Me = maxId + 1 },
		"a Term below the last one":     func(r *api.Replica) { r.Raft.Term = 3 },
		"a Term that is too great":      func(r *api.Replica) { r.Raft.Term = maxTerm + 1 },
		"a log that falls":              func(r *api.Replica) { r.Raft.Roll.Entries[1].Term = 3; r.Raft.Roll.Entries[2].Term = 2 },
		"a Role that there is not":      func(r *api.Replica) { r.Raft.Role = -1 },
		"an Age below 0":                func(r *api.Replica) { r.Raft.Age = -1 },
		"a Draw that is too great":      func(r *api.Replica) { r.Raft.Draw = 41 },
		"Progress of nobody":            func(r *api.Replica) { r.Raft.Progress = []api.Progress{{}} },
		"a log from a base that is great": func(r *api.Replica) {
			r.Raft.Roll.Base, r.Raft.Commit, r.Applied = math.MaxInt64-1, math.MaxInt64, math.MaxInt64-1
		},
		"an Id below 0":              func(r *api.Replica) { r.Plot.Desc.Id = -1 },
		"an Id that is too great":    func(r *api.Replica) { r.Plot.Desc.Id = maxId + 1 },
		"an Id alone":                func(r *api.Replica) { r.Plot = api.Plot{Desc: api.Desc{Id: 4}} },
		"a Bound that may not be":    func(r *api.Replica) { r.Plot.Desc.Bound = api.Bound{From: "p", To: "c"} },
		"no members":                 func(r *api.Replica) { r.Plot.Desc.Members = nil },
		"members that fall":          func(r *api.Replica) { r.Plot.Desc = described(6, 3) },
		"a Gen of 0":                 func(r *api.Replica) { r.Plot.Desc.Gen = 0 },
		"pairs that fall":            func(r *api.Replica) { r.Plot.Pairs = []api.Pair{{Key: "n"}, {Key: "d"}} },
		"a pair that lies elsewhere": func(r *api.Replica) { r.Plot.Pairs = []api.Pair{{Key: "z"}} },
		"sessions that fall":         func(r *api.Replica) { r.Plot.Sessions = []api.Session{{Client: 5, Seq: 1}, {Client: 4, Seq: 1}} },
		"a session with pairs":       func(r *api.Replica) { r.Plot.Sessions[0].Reply.Pairs = []api.Pair{{Key: "a"}} },
		"Eaten that fall":            func(r *api.Replica) { r.Plot.Eaten = []int64{8, 6} },
		"an Alloc below 0":           func(r *api.Replica) { r.Plot.Alloc = -1 },
	} {
		add("a follower: "+name, follower(), change)
		add("a leader: "+name, leader(), change)
	}
	return append(l, named{"the zero one", api.Replica{}})
}

// checks holds what Check answers against what it should, and what was handed in
// against what it was.
func checks(t *testing.T, what string, r api.Replica, want api.Errno) {
	t.Helper()
	in := roomy(r)
	for range 2 {
		if got := replica.Check(in); got != want {
			t.Errorf("%s: Check of %s: %d, not %d", what, show(r), got, want)
		}
		untouched(t, what, in, r)
	}
}

func TestP15_1CheckTakesWhatMayBe(t *testing.T) {
	for _, c := range right() {
		checks(t, c.name, c.r, api.OK)
		if got := replica.Check(c.r); got != api.OK {
			t.Errorf("%s, without room behind its lists: %d", c.name, got)
		}
	}
}

func TestP15_1CheckRefusesWhatMayNotBe(t *testing.T) {
	for _, c := range wrong() {
		checks(t, c.name, c.r, api.ErrReplica)
	}
}

func TestP15_1Blank(t *testing.T) {
	for _, c := range append(right(), wrong()...) {
		in := roomy(c.r)
		if got := replica.Blank(in); got != (c.r.Plot.Desc.Id == 0) {
			t.Errorf("%s: Blank of %s: %v", c.name, show(c.r), got)
		}
		untouched(t, c.name, in, c.r)
	}
}

func TestP15_1New(t *testing.T) {
	for _, id := range []int64{1, 2, maxId, 0, -1, maxId + 1, math.MinInt64, math.MaxInt64} {
		for _, draw := range []int{0, 5, 6, 7, 39, 40, 41, -1, math.MaxInt, math.MinInt} {
			got := replica.New(id, draw)
			want := api.Replica{Raft: api.Raft{Me: id, Draw: min(max(draw, 6), 40)}}
			if !sameReplica(got, want) {
				t.Errorf("New(%d, %d): %s", id, draw, show(got))
			}
			if ok := replica.Check(got) == api.OK; ok != (id >= 1 && id <= maxId) {
				t.Errorf("New(%d, %d) may be: %v", id, draw, ok)
			}
		}
	}
}

func TestP15_1From(t *testing.T) {
	first := api.Plot{Desc: api.Desc{Id: 1, Gen: 1, Members: []api.Member{{Node: 2, Id: 1}}, Next: 2}, Alloc: 1}
	frozen := some()
	frozen.Frozen = true
	for _, p := range []api.Plot{some(), first, frozen, of(maxId-1, maxId), {}, {Alloc: -1}} {
		for _, id := range []int64{1, me, maxId, 0, -5} {
			for _, draw := range []int{3, 6, 22, 40, 50} {
				in := roomyPlot(p)
				got := replica.From(in, id, draw)
				want := api.Raft{Me: id, Term: 1, Roll: api.Roll{Base: 1, BaseTerm: 1}, Commit: 1, Draw: min(max(draw, 6), 40)}
				if !sameRaft(got.Raft, want) || !samePlot(got.Plot, p) || got.Applied != 1 {
					t.Errorf("From(%s, %d, %d): %s", show(p), id, draw, show(got))
				}
				grown(got)
				if !samePlot(in, p) || !roomIsKept(in) {
					t.Errorf("From(%s): what was handed in was changed", show(p))
				}
				may := deed.Check(p) == api.OK && id >= 1
				if ok := replica.Check(got) == api.OK; ok != may {
					t.Errorf("From(%s, %d): may be: %v", show(p), id, ok)
				}
			}
		}
	}
}

// members holds what Members answers against what it should, also when that was
// written over.
func members(t *testing.T, what string, r api.Replica, want api.Desc) {
	t.Helper()
	in := roomy(r)
	for range 2 {
		got := replica.Members(in)
		if !desc.Same(got, want) {
			t.Errorf("%s: Members of %s: %s, not %s", what, show(r), show(got), show(want))
		}
		scribble(got.Members, api.Member{Node: -9, Id: -9})
		untouched(t, what, in, r)
	}
}

// logged is follower with the orders of l at the indices from 6 on.
func logged(l ...api.Order) api.Replica {
	return with(follower(), func(r *api.Replica) {
		r.Raft.Roll.Entries = r.Raft.Roll.Entries[:2]
		for _, o := range l {
			r.Raft.Roll.Entries = append(r.Raft.Roll.Entries, entry(4, o))
		}
	})
}

func TestP15_2Members(t *testing.T) {
	more := described(1, me, 6, 8)
	more.Members[3].Node, more.Next, more.Gen = 7, 9, 10
	less := described(1, me)
	less.Gen = 10
	both := described(1, me, 8)
	both.Members[2].Node, both.Next, both.Gen = 7, 9, 11
	members(t, "no changes", follower(), described(1, me, 6))
	members(t, "no entries", logged(), described(1, me, 6))
	members(t, "a member more", logged(add(1, 7)), more)
	members(t, "a member more, behind others", logged(put(1, "d", "x"), put(2, "d", "x"), add(3, 7)), more)
	members(t, "a member more, ahead of others", logged(add(1, 7), put(2, "d", "x"), put(3, "d", "x")), more)
	members(t, "a member less", logged(remove(1, 6)), less)
	members(t, "one more, one less", logged(add(1, 7), remove(2, 6)), both)
	members(t, "one less, one more", logged(remove(1, 6), add(2, 7)), both)
	members(t, "one more, and gone", logged(add(1, 7), remove(2, 8)), func() api.Desc {
		d := described(1, me, 6)
		d.Next, d.Gen = 9, 11
		return d
	}())
	members(t, "a change that cannot be", logged(add(1, 2)), described(1, me, 6))
	members(t, "a change that cannot be, and one that can", logged(remove(1, 2), add(2, 7)), more)
	// Whether the range would do it has no part.
	members(t, "of a key that lies elsewhere", logged(func() api.Order { o := add(1, 7); o.Key = "z"; return o }()), more)
	members(t, "frozen", with(logged(add(1, 7)), func(r *api.Replica) { r.Plot.Frozen = true }), more)
	// Only what stands behind Applied has a part, and all of it.
	for i := range 5 {
		r := with(follower(), func(r *api.Replica) { r.Raft.Roll.Entries[i].Text = order6() })
		want := described(1, me, 6)
		if i >= 2 {
			want = more
		}
		members(t, "at each place", r, want)
		members(t, "at each place of a leader", with(r, func(r *api.Replica) { r.Raft.Role = api.RoleLeader }), want)
		members(t, "at each place, all applied", with(r, func(r *api.Replica) { r.Raft.Commit, r.Applied = 8, 8 }), described(1, me, 6))
		members(t, "at each place, as far as the base", with(r, func(r *api.Replica) { r.Raft.Commit, r.Applied = 3, 3 }), more)
	}
}

// order6 is the text of a member more on the node 7.
func order6() string {
	return entry(4, add(6, 7)).Text
}

func TestP15_2MembersOfABlankOne(t *testing.T) {
	for _, c := range append(blanks(), wrong()...) {
		if c.r.Plot.Desc.Id == 0 {
			members(t, c.name, c.r, api.Desc{})
		}
	}
	r := with(blank(), func(r *api.Replica) {
		r.Plot.Desc = described(1, me)
		r.Plot.Desc.Id, r.Raft.Roll.Entries = 0, []api.Entry{entry(1, add(1, 7))}
	})
	members(t, "with an entry", r, api.Desc{})
}

// What New answers is as raft's.
func TestP15_1NewIsAsARaft(t *testing.T) {
	for draw := -5; draw < 60; draw++ {
		if got := replica.New(me, draw); !sameRaft(got.Raft, raft.New(me, draw)) {
			t.Errorf("New(3, %d): %s", draw, show(got))
		}
		if got := replica.From(some(), me, draw); got.Raft.Draw != raft.New(me, draw).Draw {
			t.Errorf("From with the draw %d: %s", draw, show(got))
		}
	}
}

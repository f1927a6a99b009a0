package raft_test

import (
	"fmt"
	"math"
	"slices"
	"strconv"
	"testing"

	"furlong/api"
	"furlong/desc"
	"furlong/order"
	"furlong/raft"
)

const (
	maxId    = int64(1) << 40
	maxTerm  = int64(1) << 40
	maxIndex = int64(1) << 40

	// me is the replica that does something, which is neither the first nor the
	// last one of its group.
	me = int64(3)
)

// empty is the text of what a leader writes first.
var empty = order.Put(api.Order{})

// show tells what v is, in a line that is not too long.
func show(v any) string {
	s := fmt.Sprintf("%+v", v)
	return strconv.Quote(s[:min(len(s), 900)])
}

// group is a range whose members have these Ids.
func group(ids ...int64) api.Desc {
	d := api.Desc{Id: 4, Bound: api.Bound{From: "c", To: "p"}, Gen: 9, Next: 12}
	for i, id := range ids {
		d.Members = append(d.Members, api.Member{Node: 7 - i, Id: id})
		d.Next = max(d.Next, id+1)
	}
	return d
}

// three is the group of most tests.
func three() api.Desc {
	return group(1, me, 6)
}

// written are entries of these Terms, from an index on. What was written in one
// term at one index is the same everywhere.
func written(from int64, terms ...int64) []api.Entry {
	var l []api.Entry
	for i, term := range terms {
		l = append(l, api.Entry{Term: term, Text: strconv.FormatInt(from+int64(i), 10) + "@" + strconv.FormatInt(term, 10)})
	}
	return l
}

// logOf is a log with entries of these Terms.
func logOf(base, baseTerm int64, terms ...int64) api.Roll {
	return api.Roll{Base: base, BaseTerm: baseTerm, Entries: written(base+1, terms...)}
}

// follower has the entries 4 to 8, of the Terms 1, 2, 2, 4, 4, of which those up
// to 5 stand for good.
func follower() api.Raft {
	return api.Raft{Me: me, Term: 5, Roll: logOf(3, 1, 1, 2, 2, 4, 4), Commit: 5, Lead: 1, Age: 3, Draw: 10}
}

// alone is somebody with this log who knows of no leader.
func alone() api.Raft {
	return with(follower(), func(r *api.Raft) { r.Lead = 0 })
}

// asking is somebody who would have a vote, and standing is somebody who asks for
// it.
func asking() api.Raft {
	return with(alone(), func(r *api.Raft) { r.Role, r.Granted = api.RolePre, []int64{me} })
}

func standing() api.Raft {
	return with(alone(), func(r *api.Raft) { r.Role, r.Granted, r.Vote = api.RoleCand, []int64{me}, me })
}

// leader has this log, of which those up to 6 stand for good; 1 has all up to 6,
// 6 at least those up to 4.
func leader() api.Raft {
	return with(follower(), func(r *api.Raft) {
		r.Term, r.Vote, r.Lead, r.Role, r.Age, r.Commit = 4, me, me, api.RoleLeader, 0, 6
		r.Progress = []api.Progress{{Id: 1, Next: 7, Match: 6}, {Id: 6, Next: 9, Match: 4}}
	})
}

// four are one of each role.
func four() []api.Raft {
	return []api.Raft{follower(), asking(), standing(), leader()}
}

// with is r, changed, with lists of its own.
func with(r api.Raft, change func(r *api.Raft)) api.Raft {
	r = copied(r)
	change(&r)
	return r
}

func copied(r api.Raft) api.Raft {
	r.Roll.Entries = slices.Clone(r.Roll.Entries)
	r.Granted = slices.Clone(r.Granted)
	r.Progress = slices.Clone(r.Progress)
	return r
}

// wire is a message of this kind to me.
func wire(kind int, from, term int64) api.Wire {
	return api.Wire{Kind: kind, From: from, To: me, Term: term}
}

// but is m, changed.
func but(m api.Wire, change func(m *api.Wire)) api.Wire {
	change(&m)
	return m
}

// said is a message of this kind from me.
func said(kind int, to, term int64) api.Wire {
	return api.Wire{Kind: kind, From: me, To: to, Term: term}
}

// no is m, which refuses.
func no(m api.Wire) api.Wire {
	m.Reject = true
	return m
}

// sameRaft and sameWire are whether two are alike, field by field.
func sameRaft(x, y api.Raft) bool {
	return x.Me == y.Me && x.Term == y.Term && x.Vote == y.Vote &&
		x.Roll.Base == y.Roll.Base && x.Roll.BaseTerm == y.Roll.BaseTerm && slices.Equal(x.Roll.Entries, y.Roll.Entries) &&
		x.Commit == y.Commit && x.Lead == y.Lead && x.Role == y.Role &&
		slices.Equal(x.Granted, y.Granted) && slices.Equal(x.Progress, y.Progress) && x.Age == y.Age && x.Draw == y.Draw
}

func sameWire(x, y api.Wire) bool {
	return x.Kind == y.Kind && x.From == y.From && x.To == y.To && x.Term == y.Term && x.Index == y.Index && x.LogTerm == y.LogTerm &&
		x.Commit == y.Commit && x.Hint == y.Hint && x.Reject == y.Reject && slices.Equal(x.Entries, y.Entries) && x.Text == y.Text
}

func sameGroup(c, d api.Desc) bool {
	return c.Id == d.Id && c.Bound == d.Bound && c.Gen == d.Gen && slices.Equal(c.Members, d.Members) && c.Next == d.Next
}

// What stands in the room behind lists' ends.
var (
	spareEntry    = api.Entry{Term: -77, Text: "spare"}
	spareId       = int64(-78)
	spareProgress = api.Progress{Id: -79, Next: -80, Match: -81}
	spareMember   = api.Member{Node: -82, Id: -83}
)

// room is l with room behind it, in which something stands.
func room[T any](l []T, spare T) []T {
	all := append(slices.Clone(l), spare, spare, spare)
	return all[: len(l) : len(l)+3]
}

// kept is whether l, which room made of was, is as it was, its spare room too.
func kept[T comparable](l, was []T, spare T) bool {
	return slices.Equal(l, was) && slices.Equal(l[len(l):cap(l)], []T{spare, spare, spare})
}

// handed is what a call is given, with room behind each list.
type handed struct {
	r api.Raft
	d api.Desc
	m api.Wire
}

// hand makes room behind the lists of what is to be handed in.
func hand(r api.Raft, d api.Desc, m api.Wire) handed {
	r.Roll.Entries = room(r.Roll.Entries, spareEntry)
	r.Granted = room(r.Granted, spareId)
	r.Progress = room(r.Progress, spareProgress)
	d.Members = room(d.Members, spareMember)
	m.Entries = room(m.Entries, spareEntry)
	return handed{r, d, m}
}

// untouched fails, unless what was handed in is as it was.
func (h handed) untouched(t *testing.T, what string, r api.Raft, d api.Desc, m api.Wire) {
	t.Helper()
	logs := kept(h.r.Roll.Entries, r.Roll.Entries, spareEntry) && kept(h.m.Entries, m.Entries, spareEntry)
	lists := kept(h.r.Granted, r.Granted, spareId) && kept(h.r.Progress, r.Progress, spareProgress) && kept(h.d.Members, d.Members, spareMember)
	if !logs || !lists {
		t.Fatalf("%s: what was handed in was changed: %s %s %s, not %s %s %s", what, show(h.r), show(h.d), show(h.m), show(r), show(d), show(m))
	}
}

// scribble writes over all of l, its spare room too.
func scribble[T any](l []T, x T) {
	all := l[:cap(l)]
	for i := range all {
		all[i] = x
	}
}

// call is one of the package's calls.
type call func(r api.Raft, d api.Desc, m api.Wire) (api.Raft, []api.Wire)

// does holds what a call answers against what it should, and what was handed in
// against what it was, also when the answer was written over.
func does(t *testing.T, what string, c call, r api.Raft, d api.Desc, m api.Wire, want api.Raft, out []api.Wire) {
	t.Helper()
	for range 2 {
		in := hand(r, d, m)
		got, wires := c(in.r, in.d, in.m)
		if !sameRaft(got, want) {
			t.Fatalf("%s: of %s and %s in %s: %s, not %s", what, show(r), show(m), show(d), show(got), show(want))
		}
		if !slices.EqualFunc(wires, out, sameWire) {
			t.Fatalf("%s: of %s and %s in %s: says %s, not %s", what, show(r), show(m), show(d), show(wires), show(out))
		}
		in.untouched(t, what, r, d, m)
		for i := range wires {
			scribble(wires[i].Entries, api.Entry{Term: -9, Text: "scribble"})
			if !slices.EqualFunc(wires[i+1:], out[i+1:], sameWire) {
				t.Fatalf("%s: two messages share a list", what)
			}
		}
		if !sameRaft(got, want) {
			t.Fatalf("%s: a message shares a list with the raft", what)
		}
		scribble(got.Granted, -10)
		scribble(got.Progress, api.Progress{Id: -11})
		_ = append(got.Roll.Entries, api.Entry{Term: -12, Text: "more"})
		in.untouched(t, what, r, d, m)
	}
}

// ticks, steps, proposes and tells hold what comes of such a call against what
// should.
func ticks(t *testing.T, what string, r api.Raft, d api.Desc, draw int, want api.Raft, out ...api.Wire) {
	t.Helper()
	tick := func(r api.Raft, d api.Desc, _ api.Wire) (api.Raft, []api.Wire) { return raft.Tick(r, d, draw) }
	does(t, what, tick, r, d, api.Wire{}, want, out)
}

func steps(t *testing.T, what string, r api.Raft, d api.Desc, m api.Wire, want api.Raft, out ...api.Wire) {
	t.Helper()
	does(t, what, raft.Step, r, d, m, want, out)
}

func proposes(t *testing.T, what string, r api.Raft, d api.Desc, text string, is bool, want api.Raft, out ...api.Wire) {
	t.Helper()
	propose := func(r api.Raft, d api.Desc, _ api.Wire) (api.Raft, []api.Wire) {
		got, wires, ok := raft.Propose(r, d, text)
		if ok != is {
			t.Errorf("%s: %v", what, ok)
		}
		return got, wires
	}
	does(t, what, propose, r, d, api.Wire{}, want, out)
}

func tells(t *testing.T, what string, r api.Raft, d api.Desc, want api.Raft, out ...api.Wire) {
	t.Helper()
	tell := func(r api.Raft, d api.Desc, _ api.Wire) (api.Raft, []api.Wire) { return raft.Tell(r, d) }
	does(t, what, tell, r, d, api.Wire{}, want, out)
}

// nothing holds that nothing comes of a message.
func nothing(t *testing.T, what string, r api.Raft, d api.Desc, m api.Wire) {
	t.Helper()
	steps(t, what, r, d, m, r)
}

// named is a raft, and what there is about it.
type named struct {
	name string
	r    api.Raft
}

// right are rafts that may be, at the edges too.
func right() []named {
	l := []named{{"of nobody who knows anything", raft.New(1, 0)}, {"alone", alone()}}
	for _, c := range []struct {
		name   string
		change func(r *api.Raft)
	}{
		{"as it is", func(r *api.Raft) {}},
		{"the least Me", func(r *api.Raft) { r.Me = 1 }},
		{"the greatest Me", func(r *api.Raft) { r.Me = maxId }},
		{"the Term of the last entry", func(r *api.Raft) { r.Term = 4 }},
		{"the Term 0", func(r *api.Raft) { r.Term, r.Roll, r.Commit = 0, logOf(3, 0, 0, 0), 4 }},
		{"the greatest Term", func(r *api.Raft) { r.Term = maxTerm }},
		{"the greatest Term, of all", func(r *api.Raft) { r.Term, r.Roll = maxTerm, logOf(3, maxTerm, maxTerm, maxTerm, maxTerm) }},
		{"one below the greatest Term", func(r *api.Raft) { r.Term = maxTerm - 1 }},
		{"no Vote", func(r *api.Raft) { r.Vote = 0 }},
		{"the least Vote", func(r *api.Raft) { r.Vote = 1 }},
		{"the greatest Vote", func(r *api.Raft) { r.Vote = maxId }},
		{"no Lead", func(r *api.Raft) { r.Lead = 0 }},
		{"the least Lead", func(r *api.Raft) { r.Lead = 1 }},
		{"the greatest Lead", func(r *api.Raft) { r.Lead = maxId }},
		{"no log", func(r *api.Raft) { r.Roll, r.Commit = api.Roll{}, 0 }},
		{"a log from the beginning", func(r *api.Raft) { r.Roll, r.Commit = logOf(0, 0, 1, 1, 3), 2 }},
		{"a base alone", func(r *api.Raft) { r.Roll, r.Commit = logOf(7, 4), 7 }},
		{"the greatest base", func(r *api.Raft) { r.Roll, r.Commit = logOf(maxIndex, 4), maxIndex }},
		{"one ahead of the greatest base", func(r *api.Raft) { r.Roll, r.Commit = logOf(maxIndex-1, 3, 4), maxIndex-1 }},
		{"a Commit of the base", func(r *api.Raft) { r.Commit = 3 }},
		{"a Commit of the last index", func(r *api.Raft) { r.Commit = 8 }},
		{"nobody granted", func(r *api.Raft) { r.Granted = nil }},
		{"an empty list granted", func(r *api.Raft) { r.Granted = []int64{} }},
		{"the least and the greatest granted", func(r *api.Raft) { r.Granted = []int64{1, maxId} }},
		{"many granted", func(r *api.Raft) { r.Granted = []int64{1, 2, 3, 4, 5, 6, 7, 8, 9} }},
		{"an empty Progress", func(r *api.Raft) { r.Progress = []api.Progress{} }},
		{"the edges of Progress", func(r *api.Raft) {
			r.Progress = []api.Progress{{Id: 1, Next: 1}, {Id: 2, Next: maxIndex + 1, Match: maxIndex}, {Id: maxId, Next: 5, Match: 4}}
		}},
		{"itself in Progress", func(r *api.Raft) { r.Progress = []api.Progress{{Id: me, Next: 6, Match: 1}} }},
		{"the age 0", func(r *api.Raft) { r.Age = 0 }},
		{"the greatest age", func(r *api.Raft) { r.Age = math.MaxInt }},
		{"one below the greatest age", func(r *api.Raft) { r.Age = math.MaxInt - 1 }},
		{"the least Draw", func(r *api.Raft) { r.Draw = 6 }},
		{"the greatest Draw", func(r *api.Raft) { r.Draw = 40 }},
	} {
		for _, r := range four() {
			l = append(l, named{c.name, with(r, c.change)})
		}
	}
	return l
}

// wrong are rafts that may not be, each but for one field as one that may.
func wrong() []named {
	var l []named
	add := func(name string, change func(r *api.Raft)) {
		for _, r := range four() {
			l = append(l, named{name, with(r, change)})
		}
	}
	for _, n := range []int64{-1, maxId + 1, 1<<62 + 5, math.MaxInt64, math.MinInt64, -maxId} {
		add("a Me", func(r *api.Raft) { r.Me = n })
		add("a Term", func(r *api.Raft) { r.Term = n })
		add("a Term without a log", func(r *api.Raft) { r.Term, r.Roll, r.Commit = n, api.Roll{}, 0 })
		add("a Vote", func(r *api.Raft) { r.Vote = n })
		add("a Lead", func(r *api.Raft) { r.Lead = n })
		add("a base", func(r *api.Raft) { r.Roll.Base, r.Commit = n, n })
		add("a base's Term", func(r *api.Raft) { r.Roll.BaseTerm = n })
		add("a log's Term", func(r *api.Raft) { r.Roll.Entries[1].Term = n })
		add("a Commit", func(r *api.Raft) { r.Commit = n })
		add("granted", func(r *api.Raft) { r.Granted = []int64{n} })
		add("granted, the last one", func(r *api.Raft) { r.Granted = []int64{1, 2, n} })
		add("an Id in Progress", func(r *api.Raft) { r.Progress = []api.Progress{{Id: n, Next: 1}} })
		add("the last Id in Progress", func(r *api.Raft) { r.Progress = []api.Progress{{Id: 1, Next: 1}, {Id: n, Next: 1}} })
		add("a Match", func(r *api.Raft) { r.Progress = []api.Progress{{Id: 1, Next: 9, Match: n}} })
		add("a Role", func(r *api.Raft) { r.Role = int(n) })
		add("an Age", func(r *api.Raft) { r.Age = -max(int(n), 1) })
		add("a Draw", func(r *api.Raft) { r.Draw = int(n) })
	}
	for _, n := range []int64{0, -1, maxIndex + 2, math.MaxInt64, math.MinInt64} {
		add("a Next", func(r *api.Raft) { r.Progress = []api.Progress{{Id: 1, Next: n}} })
		add("a Next and a Match below it", func(r *api.Raft) { r.Progress = []api.Progress{{Id: 1, Next: n, Match: n - 1}} })
	}
	add("no Me", func(r *api.Raft) { r.Me = 0 })
	add("a Term below the last entry's", func(r *api.Raft) { r.Term = 3 })
	add("a Term below the base's", func(r *api.Raft) { r.Term, r.Roll, r.Commit = 3, logOf(5, 4), 5 })
	add("a Term of 0 below the last entry's", func(r *api.Raft) { r.Term = 0 })
	add("a log that falls", func(r *api.Raft) { r.Roll = logOf(3, 1, 1, 3, 2, 4) })
	add("a log that is too long", func(r *api.Raft) { r.Roll, r.Commit = logOf(maxIndex-1, 1, 1, 1), maxIndex })
	add("a Commit below the base", func(r *api.Raft) { r.Commit = 2 })
	add("a Commit behind the last index", func(r *api.Raft) { r.Commit = 9 })
	add("a Role behind the last one", func(r *api.Raft) { r.Role = 4 })
	add("nobody granted, as one", func(r *api.Raft) { r.Granted = []int64{0} })
	add("somebody granted twice", func(r *api.Raft) { r.Granted = []int64{1, 3, 3} })
	add("granted that do not rise", func(r *api.Raft) { r.Granted = []int64{1, 6, 3} })
	add("granted that fall", func(r *api.Raft) { r.Granted = []int64{6, 3, 1} })
	add("nobody in Progress, as one", func(r *api.Raft) { r.Progress = []api.Progress{{Id: 0, Next: 1}} })
	add("somebody in Progress twice", func(r *api.Raft) { r.Progress = []api.Progress{{Id: 1, Next: 1}, {Id: 6, Next: 1}, {Id: 6, Next: 1}} })
	add("a Progress that does not rise", func(r *api.Raft) { r.Progress = []api.Progress{{Id: 6, Next: 1}, {Id: 1, Next: 1}} })
	add("a Match of Next", func(r *api.Raft) { r.Progress = []api.Progress{{Id: 1, Next: 5, Match: 5}} })
	add("the last Match of Next", func(r *api.Raft) { r.Progress = []api.Progress{{Id: 1, Next: 5, Match: 4}, {Id: 6, Next: 5, Match: 5}} })
	add("a Draw below the least one", func(r *api.Raft) { r.Draw = 5 })
	add("a Draw above the greatest one", func(r *api.Raft) { r.Draw = 41 })
	add("no Draw", func(r *api.Raft) { r.Draw = 0 })
	return append(l, named{"nothing", api.Raft{}})
}

// rightGroups are how many of groups may be, or are none.
const rightGroups = 12

// groups are groups of all kinds, those at the end ones that may not be.
func groups() []api.Desc {
	first, _ := desc.First(1, 2, 3, 4, 5)
	return []api.Desc{
		{}, group(), group(me), group(1), group(1, me), group(me, 6), three(), group(1, 2, 6), group(1, 2, me, 4, 6), group(2, 4, 5, 7, 8), first, group(maxId-2, maxId-1),
		group(0, -1, maxId+1), group(math.MinInt64, math.MaxInt64), group(6, me, 1), group(me, me, me), group(1, 1, 1, 6), group(make([]int64, 50)...),
	}
}

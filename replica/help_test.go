package replica_test

import (
	"fmt"
	"slices"
	"strconv"
	"strings"
	"testing"

	"furlong/api"
	"furlong/deed"
	"furlong/desc"
	"furlong/order"
	"furlong/plot"
	"furlong/raft"
	"furlong/replica"
)

const (
	maxId    = int64(1) << 40
	maxTerm  = int64(1) << 40
	maxIndex = int64(1) << 40

	// me is the replica that does something, which is neither the first nor the
	// last one of its group.
	me = int64(3)

	// client is who asks for most things.
	client = int64(5)

	mostCopy = 1 << 18
)

// show tells what v is, in a line that is not too long.
func show(v any) string {
	s := fmt.Sprintf("%+v", v)
	return strconv.Quote(s[:min(len(s), 900)])
}

// a is a text of n bytes.
func a(n int) string {
	return strings.Repeat("a", n)
}

// put is that a key is to have a value.
func put(seq int64, key, value string) api.Order {
	return api.Order{Kind: api.OrPut, Client: client, Seq: seq, Key: key, Value: value}
}

// add and remove are changes of members of a range that has the key d.
func add(seq int64, node int) api.Order {
	return api.Order{Kind: api.OrAdd, Client: client, Seq: seq, Key: "d", Node: node}
}

func remove(seq, id int64) api.Order {
	return api.Order{Kind: api.OrRemove, Client: client, Seq: seq, Key: "d", Id: id}
}

// described is a range from c to p with members of these Ids.
func described(ids ...int64) api.Desc {
	d := api.Desc{Id: 4, Bound: api.Bound{From: "c", To: "p"}, Gen: 9, Next: 8}
	for i, id := range ids {
		d.Members = append(d.Members, api.Member{Node: i + 1, Id: id})
	}
	return d
}

// some is such a range with three members on the nodes 1 to 3, three pairs, and two
// clients' sessions, that has eaten two others.
func some() api.Plot {
	return api.Plot{
		Desc:  described(1, me, 6),
		Pairs: []api.Pair{{Key: "c", Value: "1"}, {Key: "g", Value: ""}, {Key: "o\xff", Value: a(512)}},
		Sessions: []api.Session{
			{Client: 3, Seq: 7, Reply: api.Reply{Has: true, Value: "x"}},
			{Client: 9, Seq: 1, Reply: api.Reply{Code: api.ReBad, Err: 60}},
		},
		Eaten: []int64{6, 8},
	}
}

// of is some with members of these Ids.
func of(ids ...int64) api.Plot {
	p := some()
	p.Desc = described(ids...)
	return p
}

// great is a range from c to p with members of these Ids, whose text has n bytes.
func great(n int, ids ...int64) api.Plot {
	p := of(ids...)
	p.Pairs = nil
	for i := range n / 300 {
		p.Pairs = append(p.Pairs, api.Pair{Key: fmt.Sprintf("d%05d", i), Value: a(200)})
	}
	// What is left goes to the values, whose lengths keep their three digits.
	left := n - len(deed.Put(p))
	for i := range p.Pairs {
		more := min(left, 312)
		p.Pairs[i].Value = a(200 + more)
		left -= more
	}
	if deed.Check(p) != api.OK || len(deed.Put(p)) != n {
		panic("no such range")
	}
	return p
}

// entry is o as it stands in a log.
func entry(term int64, o api.Order) api.Entry {
	return api.Entry{Term: term, Text: order.Put(o)}
}

// written are entries of these Terms, from an index on, each of which has the key d
// have its index as a value.
func written(from int64, terms ...int64) []api.Entry {
	var l []api.Entry
	for i, term := range terms {
		index := from + int64(i)
		l = append(l, entry(term, put(index, "d", strconv.FormatInt(index, 10))))
	}
	return l
}

// follower has the entries 4 to 8, of the Terms 1, 2, 2, 4, 4, of which those up to
// 5 stand for good.
func follower() api.Replica {
	l := api.Roll{Base: 3, BaseTerm: 1, Entries: written(4, 1, 2, 2, 4, 4)}
	r := api.Raft{Me: me, Term: 5, Roll: l, Commit: 5, Lead: 1, Age: 3, Draw: 10}
	return api.Replica{Raft: r, Plot: some(), Applied: 5}
}

// leader has the same log, in the Term 4; 1 has all up to 6, 6 those up to 4.
func leader() api.Replica {
	return with(follower(), func(r *api.Replica) {
		r.Raft.Term, r.Raft.Vote, r.Raft.Lead, r.Raft.Role, r.Raft.Age = 4, me, me, api.RoleLeader, 0
		r.Raft.Progress = []api.Progress{{Id: 1, Next: 7, Match: 6}, {Id: 6, Next: 9, Match: 4}}
	})
}

// done is leader, when all of its log stands for good, and is applied.
func done() api.Replica {
	return with(leader(), func(r *api.Replica) {
		r.Raft.Commit, r.Applied = 8, 8
		r.Raft.Progress = []api.Progress{{Id: 1, Next: 9, Match: 8}, {Id: 6, Next: 9, Match: 8}}
	})
}

// single leads a group of itself alone, in the Term 1.
func single() api.Replica {
	return with(replica.From(of(me), me, 10), func(r *api.Replica) {
		r.Raft.Vote, r.Raft.Lead, r.Raft.Role = me, me, api.RoleLeader
	})
}

// blank knows nothing but a Term.
func blank() api.Replica {
	return with(replica.New(me, 10), func(r *api.Replica) { r.Raft.Term, r.Raft.Vote = 2, 1 })
}

// with is r, changed, with lists of its own.
func with(r api.Replica, change func(r *api.Replica)) api.Replica {
	r = copied(r)
	change(&r)
	return r
}

// but is m, changed.
func but(m api.Wire, change func(m *api.Wire)) api.Wire {
	change(&m)
	return m
}

// said is a message of this kind from me.
func said(kind int, to, term int64) api.Wire {
	return api.Wire{Kind: kind, From: me, To: to, Term: term}
}

// behind is a message of 1, who leads in the Term 5, with entries that stand behind
// an index of that term, and up to where all stands for good.
func behind(index, logTerm, commit int64, l ...api.Entry) api.Wire {
	return api.Wire{Kind: api.RaAppend, From: 1, To: me, Term: 5, Index: index, LogTerm: logTerm, Commit: commit, Entries: l}
}

// snap is a message of 1 with a copy of a range, as it is at an index of that term.
func snap(index, logTerm int64, text string) api.Wire {
	return api.Wire{Kind: api.RaSnap, From: 1, To: me, Term: 5, Index: index, LogTerm: logTerm, Text: text}
}

// came is what is said to 1 that has its entries up to an index.
func came(index int64) api.Wire {
	return but(said(api.RaAppendOk, 1, 5), func(m *api.Wire) { m.Index = index })
}

// reached is what 1 says to the leader that has its entries up to an index.
func reached(index int64) api.Wire {
	return api.Wire{Kind: api.RaAppendOk, From: 1, To: me, Term: 4, Index: index}
}

// applied is r when all of its log up to an index is applied, and what is done
// then.
func applied(r api.Replica, to int64) (api.Replica, []api.Done) {
	var l []api.Done
	r = copied(r)
	for r.Applied < to {
		e := r.Raft.Roll.Entries[r.Applied-r.Raft.Roll.Base]
		o, _ := order.Parse(e.Text)
		p, reply, effect := plot.Apply(r.Plot, o)
		r.Plot, r.Applied = p, r.Applied+1
		l = append(l, api.Done{Range: p.Desc.Id, Index: r.Applied, Term: e.Term, Order: o, Reply: reply, Effect: effect})
	}
	return r, l
}

// heard is r when its raft, in the group d, has heard m, and it has applied all up
// to an index; what the raft says, and what is done.
func heard(r api.Replica, d api.Desc, m api.Wire, to int64) (api.Replica, []api.Wire, []api.Done) {
	next := copied(r)
	x, l := raft.Step(next.Raft, d, m)
	next.Raft = x
	next, done := applied(next, to)
	return next, l, done
}

// copied is r with lists of its own.
func copied(r api.Replica) api.Replica {
	r.Raft.Roll.Entries = slices.Clone(r.Raft.Roll.Entries)
	r.Raft.Granted = slices.Clone(r.Raft.Granted)
	r.Raft.Progress = slices.Clone(r.Raft.Progress)
	r.Plot = copiedPlot(r.Plot)
	return r
}

func copiedPlot(p api.Plot) api.Plot {
	p.Desc.Members = slices.Clone(p.Desc.Members)
	p.Pairs = slices.Clone(p.Pairs)
	p.Sessions = slices.Clone(p.Sessions)
	p.Eaten = slices.Clone(p.Eaten)
	return p
}

// The functions from sameRaft to sameReplica are whether two are alike, field by
// field.
func sameRaft(x, y api.Raft) bool {
	return x.Me == y.Me && x.Term == y.Term && x.Vote == y.Vote && sameRoll(x.Roll, y.Roll) &&
		x.Commit == y.Commit && x.Lead == y.Lead && x.Role == y.Role &&
		slices.Equal(x.Granted, y.Granted) && slices.Equal(x.Progress, y.Progress) && x.Age == y.Age && x.Draw == y.Draw
}

func sameRoll(x, y api.Roll) bool {
	return x.Base == y.Base && x.BaseTerm == y.BaseTerm && slices.Equal(x.Entries, y.Entries)
}

func sameWire(x, y api.Wire) bool {
	return x.Kind == y.Kind && x.From == y.From && x.To == y.To && x.Term == y.Term && x.Index == y.Index && x.LogTerm == y.LogTerm &&
		x.Commit == y.Commit && x.Hint == y.Hint && x.Reject == y.Reject && slices.Equal(x.Entries, y.Entries) && x.Text == y.Text
}

func sameSession(x, y api.Session) bool {
	return x.Client == y.Client && x.Seq == y.Seq && order.Same(x.Reply, y.Reply)
}

func samePlot(p, q api.Plot) bool {
	return desc.Same(p.Desc, q.Desc) && slices.Equal(p.Pairs, q.Pairs) && slices.EqualFunc(p.Sessions, q.Sessions, sameSession) &&
		p.Frozen == q.Frozen && slices.Equal(p.Eaten, q.Eaten) && p.Alloc == q.Alloc
}

func sameDone(x, y api.Done) bool {
	return x.Range == y.Range && x.Index == y.Index && x.Term == y.Term && x.Order == y.Order && order.Same(x.Reply, y.Reply) &&
		x.Effect.Split == y.Effect.Split && x.Effect.Eaten == y.Effect.Eaten && samePlot(x.Effect.Right, y.Effect.Right)
}

func sameReplica(x, y api.Replica) bool {
	return sameRaft(x.Raft, y.Raft) && samePlot(x.Plot, y.Plot) && x.Applied == y.Applied
}

// What stands in the room behind lists' ends.
var (
	spareEntry    = api.Entry{Term: -77, Text: "spare"}
	spareId       = int64(-78)
	spareProgress = api.Progress{Id: -79, Next: -80, Match: -81}
	spareMember   = api.Member{Node: -82, Id: -83}
	sparePair     = api.Pair{Key: "spare", Value: "room"}
	spareSession  = api.Session{Client: -84, Seq: -85}
)

// room is l with room behind it, in which something stands.
func room[T any](l []T, spare T) []T {
	all := append(slices.Clone(l), spare, spare, spare)
	return all[: len(l) : len(l)+3]
}

// kept is whether what stood in the room behind l still does.
func kept[T comparable](l []T, spare T) bool {
	return slices.Equal(l[len(l):cap(l)], []T{spare, spare, spare})
}

// roomy is r with room behind each of its lists.
func roomy(r api.Replica) api.Replica {
	r.Raft.Roll.Entries = room(r.Raft.Roll.Entries, spareEntry)
	r.Raft.Granted = room(r.Raft.Granted, spareId)
	r.Raft.Progress = room(r.Raft.Progress, spareProgress)
	r.Plot = roomyPlot(r.Plot)
	return r
}

func roomyPlot(p api.Plot) api.Plot {
	p.Desc.Members = room(p.Desc.Members, spareMember)
	p.Pairs = room(p.Pairs, sparePair)
	p.Sessions = room(p.Sessions, spareSession)
	p.Eaten = room(p.Eaten, spareId)
	return p
}

// untouched fails, unless r, which roomy made of was, is as it was, its spare room
// too.
func untouched(t *testing.T, what string, r, was api.Replica) {
	t.Helper()
	lists := kept(r.Raft.Roll.Entries, spareEntry) && kept(r.Raft.Granted, spareId) && kept(r.Raft.Progress, spareProgress)
	if !sameReplica(r, was) || !lists || !roomIsKept(r.Plot) {
		t.Fatalf("%s: what was handed in was changed: %s, not %s", what, show(r), show(was))
	}
}

func roomIsKept(p api.Plot) bool {
	behind := p.Sessions[len(p.Sessions):cap(p.Sessions)]
	sessions := slices.EqualFunc(behind, []api.Session{spareSession, spareSession, spareSession}, sameSession)
	return sessions && kept(p.Desc.Members, spareMember) && kept(p.Pairs, sparePair) && kept(p.Eaten, spareId)
}

// grown puts something behind each list of what was answered, as somebody may do
// to whom it belongs.
func grown(r api.Replica) {
	_ = append(r.Raft.Roll.Entries, api.Entry{Term: -9, Text: "more"})
	_ = append(r.Raft.Granted, -10)
	_ = append(r.Raft.Progress, api.Progress{Id: -11})
	_ = append(r.Plot.Desc.Members, api.Member{Id: -12})
	_ = append(r.Plot.Pairs, api.Pair{Key: "more"})
	_ = append(r.Plot.Sessions, api.Session{Client: -13})
	_ = append(r.Plot.Eaten, -14)
}

// scribble writes over all of l, its spare room too.
func scribble[T any](l []T, x T) {
	all := l[:cap(l)]
	for i := range all {
		all[i] = x
	}
}

// call is one of the calls of which wires and Dones come.
type call func(r api.Replica) (api.Replica, []api.Wire, []api.Done)

// does holds what a call answers against what it should, twice, and what was handed
// in against what it was.
func does(t *testing.T, what string, c call, r, want api.Replica, wires []api.Wire, dones []api.Done) {
	t.Helper()
	in := roomy(r)
	for range 2 {
		got, out, did := c(in)
		if !sameReplica(got, want) {
			t.Fatalf("%s: of %s: %s, not %s", what, show(r), show(got), show(want))
		}
		if !slices.EqualFunc(out, wires, sameWire) {
			t.Fatalf("%s: of %s: says %s, not %s", what, show(r), show(out), show(wires))
		}
		if !slices.EqualFunc(did, dones, sameDone) {
			t.Fatalf("%s: of %s: has done %s, not %s", what, show(r), show(did), show(dones))
		}
		for i := range out {
			scribble(out[i].Entries, api.Entry{Term: -9, Text: "scribble"})
			if !slices.EqualFunc(out[i+1:], wires[i+1:], sameWire) {
				t.Fatalf("%s: two messages share a list", what)
			}
		}
		for i := range did {
			scribble(did[i].Reply.Pairs, api.Pair{Key: "scribble"})
			if !slices.EqualFunc(did[i+1:], dones[i+1:], sameDone) {
				t.Fatalf("%s: two Dones share a list", what)
			}
		}
		grown(got)
		untouched(t, what, in, r)
		if !sameReplica(got, want) {
			t.Fatalf("%s: what is said or done shares a list with the replica", what)
		}
	}
}

// ticks, steps, proposes and declines hold what comes of such a call against what
// should; nothing is that nothing does.
func ticks(t *testing.T, what string, r api.Replica, draw int, want api.Replica, wires []api.Wire, dones []api.Done) {
	t.Helper()
	c := func(r api.Replica) (api.Replica, []api.Wire, []api.Done) { return replica.Tick(r, draw) }
	does(t, what, c, r, want, wires, dones)
}

func steps(t *testing.T, what string, r api.Replica, m api.Wire, want api.Replica, wires []api.Wire, dones []api.Done) {
	t.Helper()
	in := m
	in.Entries = room(m.Entries, spareEntry)
	c := func(r api.Replica) (api.Replica, []api.Wire, []api.Done) { return replica.Step(r, in) }
	does(t, what, c, r, want, wires, dones)
	if !sameWire(in, m) || !kept(in.Entries, spareEntry) {
		t.Fatalf("%s: the message was changed: %s, not %s", what, show(in), show(m))
	}
}

func nothing(t *testing.T, what string, r api.Replica, m api.Wire) {
	t.Helper()
	steps(t, what, r, m, r, nil, nil)
}

func proposes(t *testing.T, what string, r api.Replica, o api.Order, want api.Replica, wires []api.Wire, dones []api.Done) {
	t.Helper()
	does(t, what, proposal(t, what, o, true), r, want, wires, dones)
}

func declines(t *testing.T, what string, r api.Replica, o api.Order) {
	t.Helper()
	does(t, what, proposal(t, what, o, false), r, r, nil, nil)
}

func proposal(t *testing.T, what string, o api.Order, is bool) call {
	return func(r api.Replica) (api.Replica, []api.Wire, []api.Done) {
		t.Helper()
		got, wires, dones, ok := replica.Propose(r, o)
		if ok != is {
			t.Fatalf("%s: Propose of %s to %s: %v", what, show(o), show(r), ok)
		}
		return got, wires, dones
	}
}

package replica_test

import (
	"fmt"
	"math/rand/v2"
	"slices"
	"strconv"
	"testing"

	"furlong/api"
	"furlong/deed"
	"furlong/desc"
	"furlong/member"
	"furlong/order"
	"furlong/plot"
	"furlong/raft"
	"furlong/replica"
)

// model is a replica that does what the chapter says, told a second time.
type model struct {
	r     api.Replica
	said  []api.Wire
	dones []api.Done
}

// group is P15.2.
func (x *model) group() api.Desc {
	var d api.Desc
	if x.r.Plot.Desc.Id == 0 {
		return d
	}
	d = x.r.Plot.Desc
	for i, e := range x.r.Raft.Roll.Entries {
		o, err := order.Parse(e.Text)
		if x.r.Raft.Roll.Base+int64(i)+1 <= x.r.Applied || err != api.OK {
			continue
		}
		next, err := d, api.ErrNone
		if o.Kind == api.OrAdd {
			next, err = desc.Add(d, o.Node)
		}
		if o.Kind == api.OrRemove {
			next, err = desc.Remove(d, o.Id)
		}
		if err == api.OK {
			d = next
		}
	}
	return d
}

func (x *model) ids() []int64 {
	var l []int64
	for _, m := range x.group().Members {
		l = append(l, m.Id)
	}
	return l
}

// finish is P15.3, but for its last sentence, which is end.
func (x *model) finish(ahead []int64) {
	for x.r.Applied < x.r.Raft.Commit {
		x.r.Applied++
		e := x.r.Raft.Roll.Entries[x.r.Applied-x.r.Raft.Roll.Base-1]
		d := api.Done{Range: x.r.Plot.Desc.Id, Index: x.r.Applied, Term: e.Term}
		if o, err := order.Parse(e.Text); err == api.OK {
			d.Order = o
		}
		x.r.Plot, d.Reply, d.Effect = plot.Apply(x.r.Plot, d.Order)
		x.dones = append(x.dones, d)
	}
	if now := x.ids(); x.r.Raft.Role == api.RoleLeader && !slices.Equal(ahead, now) {
		next, more := raft.Tell(x.r.Raft, x.group())
		x.r.Raft = next
		x.said = append(x.said, more...)
		x.finish(now)
	}
}

func (x *model) end() {
	for i := len(x.said) - 1; i >= 0; i-- {
		if x.said[i].Kind != api.RaSnap {
			continue
		}
		x.said[i].Index, x.said[i].Text = x.r.Applied, deed.Put(x.r.Plot)
		x.said[i].LogTerm = x.r.Raft.Roll.BaseTerm
		if at := x.r.Applied - x.r.Raft.Roll.Base; at > 0 {
			x.said[i].LogTerm = x.r.Raft.Roll.Entries[at-1].Term
		}
		if len(x.said[i].Text) > mostCopy {
			x.said = slices.Delete(x.said, i, i+1)
		}
	}
}

// does is what comes of what its raft has done.
func (x *model) does(next api.Raft, said []api.Wire, between func()) {
	ahead := x.ids()
	x.r.Raft, x.said = next, said
	between()
	x.finish(ahead)
	x.end()
}

func (x *model) tick(draw int) {
	next, said := raft.Tick(x.r.Raft, x.group(), draw)
	x.does(next, said, func() {})
}

func (x *model) step(m api.Wire) {
	blank := x.r.Plot.Desc.Id == 0
	p, e := deed.Parse(m.Text)
	switch {
	case m.Kind == api.RaSnap && e != api.OK:
		return
	case m.Kind == api.RaSnap && !blank && p.Desc.Id != x.r.Plot.Desc.Id:
		return
	case m.Kind == api.RaAppend && m.Index == 0 && blank:
		return
	}
	next, said := raft.Step(x.r.Raft, x.group(), m)
	x.does(next, said, func() {
		if m.Kind == api.RaSnap && next.Roll.Base == m.Index && next.Commit == m.Index && x.r.Applied < m.Index {
			x.r.Plot, x.r.Applied = p, m.Index
		}
	})
}

func (x *model) propose(o api.Order) bool {
	if x.r.Plot.Desc.Id == 0 || order.Check(o) != api.OK || o.Kind == api.OrNone {
		return false
	}
	last := x.r.Raft.Roll.Base + int64(len(x.r.Raft.Roll.Entries))
	if (o.Kind == api.OrAdd || o.Kind == api.OrRemove) && (x.r.Applied != last || !member.May(x.r.Plot, o)) {
		return false
	}
	next, said, ok := raft.Propose(x.r.Raft, x.group(), order.Put(o))
	if ok {
		x.does(next, said, func() {})
	}
	return ok
}

// chance makes replicas, orders and messages of small numbers, so that they often
// have to do with one another.
type chance struct{ *rand.Rand }

// upTo is a number from 0 to n.
func (c chance) upTo(n int64) int64 {
	return c.Int64N(n + 1)
}

// id is a replica's number.
func (c chance) id() int64 {
	return 1 + c.upTo(7)
}

// plot is a range of this Id that may be.
func (c chance) plot(id int64) api.Plot {
	d := api.Desc{Id: id, Bound: api.Bound{From: []string{"", "c"}[c.IntN(2)], To: []string{"", "p"}[c.IntN(2)]}, Gen: 1 + c.upTo(5), Next: 8}
	nodes := c.Perm(7)
	for i := range int64(7) {
		if len(d.Members) < 4 && (c.IntN(2) == 0 || i == 6 && len(d.Members) == 0) {
			d.Members = append(d.Members, api.Member{Node: nodes[i] + 1, Id: i + 1})
		}
	}
	p := api.Plot{Desc: d, Frozen: c.IntN(8) == 0}
	for _, k := range []string{"d", "g", "n"} {
		if c.IntN(2) == 0 {
			p.Pairs = append(p.Pairs, api.Pair{Key: k, Value: strconv.Itoa(c.IntN(9))})
		}
	}
	for client := range int64(3) {
		if c.IntN(2) == 0 {
			p.Sessions = append(p.Sessions, api.Session{Client: client + 1, Seq: 1 + c.upTo(5)})
		}
	}
	return p
}

// order is one that may be, most often.
func (c chance) order() api.Order {
	o := api.Order{Kind: c.IntN(13), Client: 1 + c.upTo(3), Seq: 1 + c.upTo(9), Key: []string{"d", "g", "n", "z"}[c.IntN(4)]}
	switch o.Kind {
	case api.OrNone:
		o = api.Order{}
	case api.OrPut, api.OrSwap:
		o.Value = strconv.Itoa(c.IntN(9))
	case api.OrScan:
		o.Limit = 3
	case api.OrAlloc:
		o.Key = ""
	case api.OrSplit:
		o.Id = 9
	case api.OrMerge:
		o.Value = deed.Put(c.plot(9))
	case api.OrAdd:
		o.Node = 1 + c.IntN(7)
	case api.OrRemove:
		o.Id = c.id()
	}
	return o
}

// entries are n entries, of Terms that rise from one to another one, many of which
// are changes of members.
func (c chance) entries(from, to int64, n int) []api.Entry {
	var l []api.Entry
	for range n {
		o := c.order()
		for c.IntN(3) == 0 && o.Kind != api.OrAdd && o.Kind != api.OrRemove {
			o = c.order()
		}
		l = append(l, entry(from+c.upTo(max(to-from, 0)), o))
		if c.IntN(12) == 0 {
			l[len(l)-1].Text = "no order's"
		}
	}
	slices.SortStableFunc(l, func(x, y api.Entry) int { return int(x.Term - y.Term) })
	return l
}

// replica is one that may be.
func (c chance) replica() api.Replica {
	r := api.Raft{Me: c.id(), Term: 1 + c.upTo(4), Vote: c.upTo(6), Lead: c.upTo(6), Role: c.IntN(4), Age: c.IntN(12), Draw: 6 + c.IntN(6)}
	for id := range int64(7) {
		if c.IntN(3) > 0 && r.Role != api.RoleFollower {
			r.Granted = append(r.Granted, id+1)
		}
		if p := (api.Progress{Id: id + 1, Next: 1 + c.upTo(14)}); c.IntN(3) > 0 && r.Role == api.RoleLeader {
			p.Match = c.upTo(p.Next - 1)
			r.Progress = append(r.Progress, p)
		}
	}
	if c.IntN(8) == 0 {
		return api.Replica{Raft: r}
	}
	base := c.upTo(4)
	r.Roll = api.Roll{Base: base, BaseTerm: c.upTo(min(2, r.Term))}
	if r.Role == api.RoleLeader {
		// So that more of it may be agreed upon.
		r.Roll.BaseTerm = r.Term - c.upTo(1)
	}
	r.Roll.Entries = c.entries(r.Roll.BaseTerm, r.Term, 1+c.IntN(9))
	r.Commit = max(base, 1) + c.upTo(base+int64(len(r.Roll.Entries))-max(base, 1))
	x := api.Replica{Raft: r, Plot: c.plot(4), Applied: r.Commit}
	if replica.Check(x) != api.OK {
		panic(fmt.Sprintf("%+v", x))
	}
	return x
}

// wire is a message to r, most often one that may be.
func (c chance) wire(r api.Replica) api.Wire {
	log := r.Raft.Roll
	m := api.Wire{Kind: c.IntN(9), From: c.id(), To: r.Raft.Me, Term: r.Raft.Term + c.upTo(2) - c.upTo(1), Index: c.upTo(14), LogTerm: c.upTo(5), Commit: c.upTo(16), Hint: c.upTo(14) - 1, Reject: c.IntN(3) == 0}
	if r.Raft.Role == api.RoleLeader && c.IntN(2) == 0 {
		m.Kind, m.Term = api.RaAppendOk, r.Raft.Term
	}
	at := m.Index - log.Base
	if c.IntN(3) > 0 && at == 0 {
		m.LogTerm = log.BaseTerm
	}
	if c.IntN(3) > 0 && at > 0 && at <= int64(len(log.Entries)) {
		m.LogTerm = log.Entries[at-1].Term
	}
	if m.Kind == api.RaAppend && c.IntN(2) == 0 {
		m.Entries = c.entries(min(m.LogTerm, m.Term), m.Term, c.IntN(6))
	}
	if m.Kind == api.RaAppend && c.IntN(2) == 0 && at >= 0 && at < int64(len(log.Entries)) {
		m.Entries = slices.Clone(log.Entries[at:])
	}
	if m.Kind == api.RaSnap {
		m.Text = deed.Put(c.plot(4 + c.upTo(1)*c.upTo(1)))
		if c.IntN(8) == 0 {
			m.Text = m.Text[1:]
		}
	}
	if c.IntN(20) == 0 {
		m.To = c.id()
	}
	return m
}

// agrees fails, unless a call answers what the model does.
func agrees(t *testing.T, what string, r api.Replica, x *model, got api.Replica, wires []api.Wire, dones []api.Done) {
	t.Helper()
	if !sameReplica(got, x.r) || !slices.EqualFunc(wires, x.said, sameWire) || !slices.EqualFunc(dones, x.dones, sameDone) {
		t.Fatalf("%s of %s: %s %s %s, not %s %s %s", what, show(r), show(got), show(wires), show(dones), show(x.r), show(x.said), show(x.dones))
	}
}

func TestP15_4IsAsTheModel(t *testing.T) {
	c := chance{rand.New(rand.NewPCG(15, 4))}
	seen := map[string]int{}
	for range 60000 {
		r, draw, o := c.replica(), c.IntN(50), c.order()
		m := c.wire(r)
		if c.IntN(2) == 0 {
			// Nothing is left to be applied.
			last := r.Raft.Roll.Base + int64(len(r.Raft.Roll.Entries))
			r.Raft.Commit, r.Applied = last, last
		}
		x := &model{r: copied(r)}
		x.tick(draw)
		got, wires, dones := replica.Tick(r, draw)
		agrees(t, "Tick", r, x, got, wires, dones)
		x = &model{r: copied(r)}
		x.step(m)
		ahead := x.r.Raft.Roll
		got, wires, dones = replica.Step(r, m)
		agrees(t, "Step of "+show(m), r, x, got, wires, dones)
		seen["dones"] += len(dones)
		if len(dones) == 0 && x.r.Applied > r.Applied && ahead.Base == x.r.Applied {
			seen["copies"]++
		}
		x = &model{r: copied(r)}
		is := x.propose(o)
		next, wires, dones, ok := replica.Propose(r, o)
		agrees(t, "Propose of "+show(o), r, x, next, wires, dones)
		if is != ok {
			t.Fatalf("Propose of %s to %s: %v", show(o), show(r), ok)
		}
		if ok && (o.Kind == api.OrAdd || o.Kind == api.OrRemove) {
			seen["changes"]++
		}
		for _, m := range wires {
			if m.Kind == api.RaSnap {
				seen["copies said"]++
			}
		}
		if d := (&model{r: r}).group(); !desc.Same(replica.Members(r), d) {
			t.Fatalf("Members of %s: %s", show(r), show(d))
		}
	}
	// What never came to pass was not held against anything.
	for _, what := range []string{"dones", "copies", "changes", "copies said"} {
		if seen[what] < 300 {
			t.Errorf("%s: %d", what, seen[what])
		}
	}
}

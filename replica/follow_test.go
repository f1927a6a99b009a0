package replica_test

import (
	"math/rand/v2"
	"slices"
	"testing"

	"furlong/api"
	"furlong/deed"
	"furlong/replica"
)

// In a whole life, whatever comes to it, a replica is followed by one.
func TestP15_6Lives(t *testing.T) {
	c := chance{rand.New(rand.NewPCG(15, 6))}
	done, copies := 0, 0
	for range 1500 {
		r := c.replica()
		// Behind that hardly any message has to do with what it has.
		for r.Applied < 14 && len(r.Raft.Roll.Entries) < 40 {
			x := answer{}
			switch k := c.IntN(12); {
			case k < 2:
				x.r, x.wires, x.dones = replica.Tick(r, c.IntN(50))
			case k < 4:
				x.r, x.wires, x.dones, _ = replica.Propose(r, c.order())
			case k == 4:
				x.r = replica.Compact(r)
			case k == 5 && c.IntN(4) == 0:
				next, e := replica.Parse(replica.Put(r), c.IntN(50))
				if e != api.OK {
					t.Fatalf("there is none: %s", show(r))
				}
				x.r = next
			default:
				x.r, x.wires, x.dones = replica.Step(r, c.wire(r))
			}
			follows(t, "a life", r, x)
			if x.r.Applied > r.Applied && len(x.dones) == 0 {
				copies++
			}
			done += len(x.dones)
			r = x.r
		}
	}
	if done < 2000 || copies < 1000 {
		t.Errorf("%d done, %d copies", done, copies)
	}
}

// net is a group, and what is on its way in it.
type net struct {
	chance
	replicas map[int64]api.Replica
	way      []api.Wire
	parted   int64 // nothing goes to it or comes from it; 0: nobody
	// wild is whether messages come in any order.
	wild bool
	// kinds has which orders are asked.
	kinds []int
	seq   int64

	leaders map[int64]int64    // by Term
	done    map[int64]api.Done // by index
	plots   map[int64]api.Plot // by what is applied
	copies  int                // that were taken
}

// newNet is a range of all keys, with three members, of whom kinds are asked.
func newNet(c chance, kinds ...int) *net {
	n := &net{chance: c, replicas: map[int64]api.Replica{}, kinds: kinds}
	n.leaders, n.done, n.plots = map[int64]int64{}, map[int64]api.Done{}, map[int64]api.Plot{}
	p := of(1, 2, 3)
	p.Desc.Bound, p.Alloc, p.Eaten, p.Desc.Next = api.Bound{}, 9, nil, 4
	p.Pairs = []api.Pair{{Key: "a", Value: "1"}}
	for _, m := range p.Desc.Members {
		n.replicas[m.Id] = replica.From(p, m.Id, 6+c.IntN(12))
	}
	return n
}

// becomes notes what has become of one of them, and holds it against what is known
// of all.
func (n *net) becomes(t *testing.T, x answer) {
	t.Helper()
	id := x.r.Raft.Me
	was := n.replicas[id]
	follows(t, "in a group", was, x)
	if x.r.Raft.Role == api.RoleLeader {
		if had := n.leaders[x.r.Raft.Term]; had != 0 && had != id {
			t.Fatalf("%d and %d lead in the Term %d", had, id, x.r.Raft.Term)
		}
		n.leaders[x.r.Raft.Term] = id
	}
	for _, d := range x.dones {
		if had, there := n.done[d.Index]; there && !sameDone(had, d) {
			t.Fatalf("at %d was done %s, and %s", d.Index, show(had), show(d))
		}
		n.done[d.Index] = d
	}
	if had, there := n.plots[x.r.Applied]; there && !samePlot(had, x.r.Plot) {
		t.Fatalf("at %d: %s, and %s", x.r.Applied, show(had), show(x.r.Plot))
	}
	if !replica.Blank(x.r) {
		n.plots[x.r.Applied] = x.r.Plot
	}
	if x.r.Applied > was.Applied && len(x.dones) == 0 {
		n.copies++
	}
	n.replicas[id] = x.r
	n.way = append(n.way, x.wires...)
}

// isLate is whether m is a copy for somebody whose log already has what it is a copy
// of, and may have more behind that. A raft that takes it forgets that, though it may
// have told the leader that it has it: such a one must be lost on the way.
func isLate(r api.Replica, m api.Wire) bool {
	if m.Kind != api.RaSnap {
		return false
	}
	at := m.Index - r.Raft.Roll.Base - 1
	return at >= 0 && at < int64(len(r.Raft.Roll.Entries)) && r.Raft.Roll.Entries[at].Term == m.LogTerm
}

// deliver brings the message at a place of the way.
func (n *net) deliver(t *testing.T, at int) {
	t.Helper()
	m := n.way[at]
	n.way = slices.Delete(n.way, at, at+1)
	if m.From == n.parted || m.To == n.parted {
		return
	}
	r, there := n.replicas[m.To]
	if !there {
		r = replica.New(m.To, 6+n.IntN(12))
	}
	if n.wild && isLate(r, m) {
		return
	}
	n.replicas[m.To] = r
	x, l, d := replica.Step(r, m)
	n.becomes(t, answer{r: x, wires: l, dones: d})
}

// tick is a moment that goes by for one of them.
func (n *net) tick(t *testing.T, id int64) {
	t.Helper()
	x, l, d := replica.Tick(n.replicas[id], 6+n.IntN(12))
	n.becomes(t, answer{r: x, wires: l, dones: d})
}

// propose asks one of them for something.
func (n *net) propose(t *testing.T, id int64) {
	t.Helper()
	o := n.order()
	for !slices.Contains(n.kinds, o.Kind) {
		o = n.order()
	}
	n.seq++
	if o.Kind != api.OrNone {
		// Now and then what was asked already.
		o.Seq = max(n.seq-n.upTo(2), 1)
	}
	x, l, d, _ := replica.Propose(n.replicas[id], o)
	n.becomes(t, answer{r: x, wires: l, dones: d})
}

// fail is that the power of one of them fails, and comes again.
func (n *net) fail(t *testing.T, id int64) {
	t.Helper()
	r, e := replica.Parse(replica.Put(n.replicas[id]), 6+n.IntN(12))
	if e != api.OK {
		t.Fatalf("there is none: %s", show(n.replicas[id]))
	}
	n.becomes(t, answer{r: r})
}

// anyone is one of them.
func (n *net) anyone() int64 {
	l := n.all()
	return l[n.IntN(len(l))]
}

// all are all of them, rising.
func (n *net) all() []int64 {
	var l []int64
	for id := range n.replicas {
		l = append(l, id)
	}
	slices.Sort(l)
	return l
}

// storm lets anything happen to them, and to what is said, times over.
func (n *net) storm(t *testing.T, times int) {
	t.Helper()
	n.wild = true
	for range times {
		switch k := n.IntN(24); {
		case k < 3:
			n.propose(t, n.anyone())
		case k == 3 && n.IntN(6) == 0:
			n.parted = []int64{0, n.anyone()}[n.IntN(2)]
		case k == 4 && n.IntN(3) == 0:
			n.becomes(t, answer{r: replica.Compact(n.replicas[n.anyone()])})
		case k == 5 && n.IntN(9) == 0:
			n.fail(t, n.anyone())
		case k < 10:
			n.tick(t, n.anyone())
		case len(n.way) == 0:
			n.tick(t, n.anyone())
		case k == 10:
			n.way = slices.Delete(n.way, 0, 1)
		case k == 11:
			n.way = append(n.way, n.way[n.IntN(len(n.way))])
		case k < 15:
			n.deliver(t, n.IntN(len(n.way)))
		default:
			n.deliver(t, 0)
		}
		if len(n.way) > 60 {
			n.way = n.way[n.IntN(60):]
		}
	}
}

// calm lets all that is said come, and time go by.
func (n *net) calm(t *testing.T) {
	t.Helper()
	n.parted, n.wild, n.way = 0, false, nil
	for range 80 {
		for _, id := range n.all() {
			n.tick(t, id)
		}
		for len(n.way) > 0 {
			n.deliver(t, 0)
		}
	}
}

// alike fails, unless all members of the group have applied the same, as far as
// anybody has.
func (n *net) alike(t *testing.T) {
	t.Helper()
	most := api.Replica{}
	for _, r := range n.replicas {
		if r.Applied > most.Applied {
			most = r
		}
	}
	for _, m := range most.Plot.Desc.Members {
		r := n.replicas[m.Id]
		if r.Applied != most.Applied || !samePlot(r.Plot, most.Plot) || deed.Put(r.Plot) != deed.Put(most.Plot) {
			t.Fatalf("%s and %s", show(r), show(most))
		}
	}
}

// ranges are what changes a range, but not its members.
var ranges = []int{api.OrNone, api.OrGet, api.OrPut, api.OrDel, api.OrSwap, api.OrScan, api.OrAlloc, api.OrSplit, api.OrFreeze, api.OrMerge, api.OrLook}

func TestP15_7ThreeAreAlike(t *testing.T) {
	done, copies, led := 0, 0, 0
	for seed := range uint64(150) {
		n := newNet(chance{rand.New(rand.NewPCG(157, seed))}, ranges...)
		n.storm(t, 2500)
		n.calm(t)
		n.alike(t)
		done, copies, led = done+len(n.done), copies+n.copies, led+len(n.leaders)
	}
	// If nothing came of it, nothing was seen.
	if done < 10000 || copies < 300 || led < 500 {
		t.Errorf("%d were done, %d copies, %d have led", done, copies, led)
	}
}

// Members that come are blank at first; who has gone is still there, and may say
// what it likes.
func TestP15_7SoAreThoseWhoComeAndGo(t *testing.T) {
	done, changes, copies := 0, 0, 0
	for seed := range uint64(150) {
		n := newNet(chance{rand.New(rand.NewPCG(1577, seed))}, api.OrPut, api.OrDel, api.OrAdd, api.OrRemove)
		n.storm(t, 2500)
		n.calm(t)
		for _, d := range n.done {
			if d.Reply.Code == api.ReOK && (d.Order.Kind == api.OrAdd || d.Order.Kind == api.OrRemove) {
				changes++
			}
		}
		done, copies = done+len(n.done), copies+n.copies
	}
	if done < 5000 || changes < 500 || copies < 500 {
		t.Errorf("%d were done, %d changes, %d copies", done, changes, copies)
	}
}

// A blank one is sent a copy, and then what comes behind it.
func TestP15_7ABlankOneBecomesAlike(t *testing.T) {
	n := newNet(chance{rand.New(rand.NewPCG(15777, 1))}, api.OrPut)
	delete(n.replicas, 3)
	n.calm(t)
	for range 30 {
		n.propose(t, n.leaders[n.replicas[1].Raft.Term])
	}
	n.calm(t)
	n.alike(t)
	if r := n.replicas[3]; r.Applied < 30 || n.copies == 0 {
		t.Errorf("%s, %d copies", show(r), n.copies)
	}
}

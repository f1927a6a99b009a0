package raft_test

import (
	"math/rand/v2"
	"slices"
	"strconv"
	"testing"

	"furlong/api"
	"furlong/raft"
)

// neverBack fails, unless what holds of r still holds of next, which has become
// of it.
func neverBack(t *testing.T, what string, r, next api.Raft) {
	t.Helper()
	if next.Term < r.Term || next.Commit < r.Commit || next.Me != r.Me {
		t.Fatalf("%s: back from %s to %s", what, show(r), show(next))
	}
	if next.Term == r.Term && r.Vote != 0 && next.Vote != r.Vote {
		t.Fatalf("%s: another vote: of %s, %s", what, show(r), show(next))
	}
	if next.Roll.Base > next.Commit || next.Commit > next.Roll.Base+int64(len(next.Roll.Entries)) {
		t.Fatalf("%s: Commit is not in the log: of %s, %s", what, show(r), show(next))
	}
	if from := max(r.Roll.Base, next.Roll.Base); from < r.Commit && !slices.Equal(stretch(r, from, r.Commit), stretch(next, from, r.Commit)) {
		t.Fatalf("%s: what stood has gone: of %s, %s", what, show(r), show(next))
	}
}

// stretch is the entries of r's log behind from, up to to.
func stretch(r api.Raft, from, to int64) []api.Entry {
	return r.Roll.Entries[from-r.Roll.Base : to-r.Roll.Base]
}

func TestP13_7NeverBack(t *testing.T) {
	c := chance{rand.New(rand.NewPCG(13, 7))}
	for range 150000 {
		r, d := c.raft(), c.group()
		m := c.wire(r)
		for _, next := range followers(r, d, m, c.IntN(50)) {
			neverBack(t, "a message of small numbers", r, next)
		}
	}
	all := groups()
	for i, c := range right() {
		for j, m := range wildWires(c.r) {
			for _, next := range followers(c.r, all[(i+j)%len(all)], m, j) {
				neverBack(t, c.name, c.r, next)
			}
		}
	}
}

// In one Term a replica votes for one only, whatever comes to it in a whole life.
func TestP13_7VotesOnce(t *testing.T) {
	c := chance{rand.New(rand.NewPCG(13, 17))}
	for range 300 {
		r := c.raft()
		r.Role, r.Granted, r.Progress = api.RoleFollower, nil, nil
		votes := map[int64]int64{r.Term: r.Vote}
		for range 400 {
			d, was := c.group(), r
			var l []api.Wire
			switch c.IntN(6) {
			case 0:
				r, l = raft.Tick(r, d, c.IntN(12))
			case 1:
				r, l, _ = raft.Propose(r, d, "x")
			default:
				r, l = raft.Step(r, d, c.wire(r))
			}
			neverBack(t, "a life", was, r)
			given := slices.Clone(l)
			for _, m := range given {
				if m.Kind != api.RaVoteOk || m.Reject {
					continue
				}
				if had := votes[m.Term]; had != 0 && had != m.To {
					t.Fatalf("in the Term %d for %d and for %d: %s", m.Term, had, m.To, show(r))
				}
				votes[m.Term] = m.To
			}
			if had := votes[r.Term]; r.Vote != 0 && had != 0 && had != r.Vote {
				t.Fatalf("in the Term %d for %d and for %d: %s", r.Term, had, r.Vote, show(r))
			}
			if r.Vote != 0 {
				votes[r.Term] = r.Vote
			}
			if len(r.Roll.Entries) > 40 {
				break
			}
		}
	}
}

// net is a group, and what is on its way in it.
type net struct {
	chance
	d       api.Desc
	rafts   map[int64]api.Raft
	way     []api.Wire
	leaders map[int64]int64     // by Term
	stands  map[int64]api.Entry // by index
	parted  int64               // nothing goes to it or comes from it; 0: nobody
}

// newNet is a group of members with these Ids, none of whom knows anything.
func newNet(c chance, ids ...int64) *net {
	n := &net{chance: c, d: group(ids...), rafts: map[int64]api.Raft{}, leaders: map[int64]int64{}, stands: map[int64]api.Entry{}}
	for _, id := range ids {
		n.rafts[id] = raft.New(id, 6+c.IntN(12))
	}
	return n
}

// becomes notes what has become of one of them, and holds it against what was
// known.
func (n *net) becomes(t *testing.T, r api.Raft, said []api.Wire) {
	t.Helper()
	was := n.rafts[r.Me]
	neverBack(t, "in a group", was, r)
	if raft.Check(r) != api.OK {
		t.Fatalf("it may not be: %s", show(r))
	}
	if r.Role == api.RoleLeader {
		if had := n.leaders[r.Term]; had != 0 && had != r.Me {
			t.Fatalf("%d and %d lead in the Term %d", had, r.Me, r.Term)
		}
		n.leaders[r.Term] = r.Me
	}
	for i, e := range stretch(r, was.Commit, r.Commit) {
		index := was.Commit + int64(i) + 1
		if had, there := n.stands[index]; there && had != e {
			t.Fatalf("at %d stand %s and %s", index, show(had), show(e))
		}
		n.stands[index] = e
	}
	n.rafts[r.Me] = r
	n.way = append(n.way, said...)
}

// deliver brings the message at a place of the way.
func (n *net) deliver(t *testing.T, at int) {
	t.Helper()
	m := n.way[at]
	n.way = slices.Delete(n.way, at, at+1)
	if m.From == n.parted || m.To == n.parted {
		return
	}
	r, l := raft.Step(n.rafts[m.To], n.d, m)
	n.becomes(t, r, l)
}

// tick is a moment that goes by for one of them.
func (n *net) tick(t *testing.T, id int64) {
	t.Helper()
	r, l := raft.Tick(n.rafts[id], n.d, 6+n.IntN(12))
	n.becomes(t, r, l)
}

// propose asks one of them for an entry of its own.
func (n *net) propose(t *testing.T, id int64, text string) {
	t.Helper()
	r, l, _ := raft.Propose(n.rafts[id], n.d, text)
	n.becomes(t, r, l)
}

// anyone is one of them.
func (n *net) anyone() int64 {
	return n.d.Members[n.IntN(len(n.d.Members))].Id
}

// storm lets anything happen to what is said, times over.
func (n *net) storm(t *testing.T, times int) {
	t.Helper()
	for i := range times {
		switch k := n.IntN(20); {
		case k == 0:
			n.propose(t, n.anyone(), "text "+strconv.Itoa(i))
		case k == 1 && n.IntN(6) == 0:
			n.parted = []int64{0, n.anyone()}[n.IntN(2)]
		case k < 7:
			n.tick(t, n.anyone())
		case len(n.way) == 0:
			n.tick(t, n.anyone())
		case k == 7:
			n.way = slices.Delete(n.way, 0, 1)
		case k == 8:
			n.way = append(n.way, n.way[n.IntN(len(n.way))])
		case k < 12:
			n.deliver(t, n.IntN(len(n.way)))
		default:
			n.deliver(t, 0)
		}
		if len(n.way) > 60 {
			n.way = n.way[n.IntN(60):]
		}
	}
}

// calm lets all that is said come, and time go by.
func (n *net) calm(t *testing.T) {
	t.Helper()
	n.parted = 0
	for range 60 {
		for _, m := range n.d.Members {
			n.tick(t, m.Id)
		}
		for len(n.way) > 0 {
			n.deliver(t, 0)
		}
	}
}

// leader is who leads, and whether just one does, whom all others follow.
func (n *net) leader() (int64, bool) {
	var l []int64
	for id, r := range n.rafts {
		if r.Role == api.RoleLeader {
			l = append(l, id)
		}
	}
	if len(l) != 1 {
		return 0, false
	}
	for _, r := range n.rafts {
		if r.Lead != l[0] || r.Term != n.rafts[l[0]].Term {
			return 0, false
		}
	}
	return l[0], true
}

func TestP13_8OneLeader(t *testing.T) {
	led, stood := 0, 0
	for seed := range uint64(400) {
		n := newNet(chance{rand.New(rand.NewPCG(13, seed))}, 1, me, 6)
		n.storm(t, 3000)
		led, stood = led+len(n.leaders), stood+len(n.stands)
	}
	// If nothing came of it, nothing was seen.
	if led < 1000 || stood < 10000 {
		t.Errorf("%d have led, %d entries have stood", led, stood)
	}
}

func TestP13_8OneLeaderOfMore(t *testing.T) {
	for _, ids := range [][]int64{{me}, {me, 6}, {1, 2, me, 6}, {1, 2, me, 4, 6}} {
		for seed := range uint64(20) {
			n := newNet(chance{rand.New(rand.NewPCG(138, seed))}, ids...)
			n.storm(t, 2000)
		}
	}
}

// What has stood is left to nobody's luck: as soon as messages come again, one
// leads, and all have the same.
func TestP13_8AllHaveTheSameInTheEnd(t *testing.T) {
	for seed := range uint64(40) {
		n := newNet(chance{rand.New(rand.NewPCG(1388, seed))}, 1, me, 6)
		n.storm(t, 1500)
		n.calm(t)
		id, one := n.leader()
		if !one {
			t.Fatalf("nobody leads: %s", show(n.rafts))
		}
		n.propose(t, id, "last")
		n.calm(t)
		for _, r := range n.rafts {
			lead := n.rafts[id]
			if !slices.Equal(r.Roll.Entries, lead.Roll.Entries) || r.Commit != int64(len(r.Roll.Entries)) || r.Roll.Entries[r.Commit-1].Text != "last" {
				t.Fatalf("%s and %s", show(r), show(lead))
			}
		}
	}
}

// One whose messages go nowhere takes no Term, so that nobody has to follow it
// when it comes back.
func TestP13_8WhoIsCutOffUnseatsNobody(t *testing.T) {
	for seed := range uint64(20) {
		n := newNet(chance{rand.New(rand.NewPCG(13888, seed))}, 1, me, 6)
		n.calm(t)
		id, one := n.leader()
		if !one {
			t.Fatal("nobody leads")
		}
		term := n.rafts[id].Term
		for _, m := range n.d.Members {
			if m.Id != id {
				n.parted = m.Id
			}
		}
		for range 200 {
			for _, m := range n.d.Members {
				n.tick(t, m.Id)
			}
			for len(n.way) > 0 {
				n.deliver(t, 0)
			}
		}
		n.calm(t)
		if now, one := n.leader(); !one || now != id || n.rafts[id].Term != term {
			t.Fatalf("%d led in %d, now %s", id, term, show(n.rafts))
		}
	}
}

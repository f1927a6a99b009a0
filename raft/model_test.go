package raft_test

import (
	"maps"
	"math/rand/v2"
	"slices"
	"testing"

	"furlong/api"
	"furlong/raft"
)

// model is a replica, as the chapter tells it, told a second time: its log by
// index, the others by Id.
type model struct {
	r       api.Raft // but for what stands below
	log     map[int64]api.Entry
	last    int64
	granted map[int64]bool
	others  map[int64]api.Progress
	members []int64
	said    []api.Wire
}

// modelOf is r in the group d.
func modelOf(r api.Raft, d api.Desc) *model {
	x := &model{r: r, last: r.Roll.Base, log: map[int64]api.Entry{}, granted: map[int64]bool{}, others: map[int64]api.Progress{}}
	for _, e := range r.Roll.Entries {
		x.last++
		x.log[x.last] = e
	}
	for _, id := range r.Granted {
		x.granted[id] = true
	}
	for _, p := range r.Progress {
		x.others[p.Id] = p
	}
	for _, m := range d.Members {
		x.members = append(x.members, m.Id)
	}
	return x
}

// raft is what has become of it.
func (x *model) raft() api.Raft {
	r := x.r
	r.Roll.Entries, r.Granted, r.Progress = nil, nil, nil
	for i := r.Roll.Base + 1; i <= x.last; i++ {
		r.Roll.Entries = append(r.Roll.Entries, x.log[i])
	}
	r.Granted = slices.Sorted(maps.Keys(x.granted))
	for _, id := range slices.Sorted(maps.Keys(x.others)) {
		r.Progress = append(r.Progress, x.others[id])
	}
	return r
}

// term is the term at i, or -1.
func (x *model) term(i int64) int64 {
	if i == x.r.Roll.Base {
		return x.r.Roll.BaseTerm
	}
	if e, ok := x.log[i]; ok {
		return e.Term
	}
	return -1
}

func (x *model) say(m api.Wire) {
	m.From = x.r.Me
	x.said = append(x.said, m)
}

func (x *model) follow(term, lead int64) {
	if term > x.r.Term {
		x.r.Term, x.r.Vote = term, 0
	}
	x.r.Role, x.r.Lead, x.r.Age = api.RoleFollower, lead, 0
	clear(x.granted)
	clear(x.others)
}

func (x *model) tell(id int64) {
	next := x.others[id].Next
	if next <= x.r.Roll.Base {
		x.say(api.Wire{Kind: api.RaSnap, To: id, Term: x.r.Term})
		return
	}
	m := api.Wire{Kind: api.RaAppend, To: id, Term: x.r.Term, Index: next - 1, LogTerm: max(x.term(next-1), 0), Commit: x.r.Commit}
	for i := next; i <= x.last && len(m.Entries) < 8; i++ {
		m.Entries = append(m.Entries, x.log[i])
	}
	x.say(m)
}

func (x *model) tellAll() {
	for _, id := range x.members {
		if _, there := x.others[id]; !there && id != x.r.Me {
			x.others[id] = api.Progress{Id: id, Next: x.last + 1}
		}
	}
	for _, id := range slices.Sorted(maps.Keys(x.others)) {
		if slices.Contains(x.members, id) {
			x.tell(id)
		} else {
			delete(x.others, id)
		}
	}
}

// agree goes down from the last index to the greatest one that more than half of
// the members have.
func (x *model) agree() bool {
	top := x.last
	for _, p := range x.others {
		top = max(top, p.Match)
	}
	for n := top; n > x.r.Commit; n-- {
		have := 0
		for _, id := range x.members {
			if id == x.r.Me && x.last >= n || id != x.r.Me && x.others[id].Match >= n {
				have++
			}
		}
		if 2*have <= len(x.members) {
			continue
		}
		if x.term(n) != x.r.Term {
			return false
		}
		x.r.Commit = n
		x.tellAll()
		return true
	}
	return false
}

func (x *model) write(text string) {
	x.last++
	x.log[x.last] = api.Entry{Term: x.r.Term, Text: text}
	x.tellAll()
	x.agree()
}

func (x *model) quorum() bool {
	n := 0
	for _, id := range x.members {
		if x.granted[id] {
			n++
		}
	}
	return 2*n > len(x.members)
}

func (x *model) askOthers(kind int, term int64) {
	for _, id := range x.members {
		if id != x.r.Me {
			x.say(api.Wire{Kind: kind, To: id, Term: term, Index: x.last, LogTerm: x.term(x.last)})
		}
	}
}

func (x *model) stand() {
	x.r.Term++
	x.r.Vote, x.r.Role, x.r.Lead = x.r.Me, api.RoleCand, 0
	x.granted = map[int64]bool{x.r.Me: true}
	if x.quorum() {
		x.lead()
	} else {
		x.askOthers(api.RaVote, x.r.Term)
	}
}

func (x *model) lead() {
	x.r.Role, x.r.Lead, x.r.Age = api.RoleLeader, x.r.Me, 0
	clear(x.granted)
	clear(x.others)
	x.write(empty)
}

func (x *model) tick(draw int) {
	x.r.Age++
	if x.r.Role == api.RoleLeader {
		if x.r.Age >= 2 {
			x.r.Age = 0
			x.tellAll()
		}
		return
	}
	if x.r.Age < x.r.Draw {
		return
	}
	x.r.Age, x.r.Draw, x.r.Lead = 0, max(6, min(draw, 40)), 0
	if !slices.Contains(x.members, x.r.Me) || x.r.Term == maxTerm {
		return
	}
	x.r.Role, x.granted = api.RolePre, map[int64]bool{x.r.Me: true}
	if x.quorum() {
		x.stand()
	} else {
		x.askOthers(api.RaPre, x.r.Term+1)
	}
}

func (x *model) step(m api.Wire) {
	if m.To != x.r.Me || m.From == x.r.Me || m.Term < 1 || m.Term > maxTerm || m.From < 1 || m.From > maxId {
		return
	}
	lastTerm := x.term(x.last)
	newer := m.LogTerm > lastTerm || m.LogTerm == lastTerm && m.Index >= x.last
	above := m.Term > x.r.Term
	same := m.Term == x.r.Term
	member := slices.Contains(x.members, m.From)
	switch m.Kind {
	case api.RaPre:
		if above && newer && (x.r.Lead == 0 || x.r.Age >= 6) {
			x.say(api.Wire{Kind: api.RaPreOk, To: m.From, Term: m.Term})
		} else {
			x.say(api.Wire{Kind: api.RaPreOk, To: m.From, Term: x.r.Term, Reject: true})
		}
	case api.RaPreOk:
		if m.Reject && above {
			x.follow(m.Term, 0)
		} else if !m.Reject && x.r.Role == api.RolePre && m.Term == x.r.Term+1 && member {
			x.granted[m.From] = true
			if x.quorum() {
				x.stand()
			}
		}
	case api.RaVote:
		if above {
			x.follow(m.Term, 0)
			same = true
		}
		yes := same && x.r.Role == api.RoleFollower && (x.r.Vote == 0 || x.r.Vote == m.From) && newer
		if yes {
			x.r.Vote, x.r.Age = m.From, 0
		}
		x.say(api.Wire{Kind: api.RaVoteOk, To: m.From, Term: x.r.Term, Reject: !yes})
	case api.RaVoteOk:
		if above {
			x.follow(m.Term, 0)
		} else if x.r.Role == api.RoleCand && same && !m.Reject && member {
			x.granted[m.From] = true
			if x.quorum() {
				x.lead()
			}
		}
	case api.RaAppend, api.RaSnap:
		x.hear(m)
	case api.RaAppendOk:
		if above {
			x.follow(m.Term, 0)
		} else if same {
			x.hearBack(m)
		}
	}
}

func (x *model) hear(m api.Wire) {
	if m.Term < x.r.Term {
		x.say(api.Wire{Kind: api.RaAppendOk, To: m.From, Term: x.r.Term, Reject: true, Index: m.Index, Hint: x.last})
		return
	}
	if m.Term == x.r.Term && x.r.Role == api.RoleLeader {
		return
	}
	x.follow(m.Term, m.From)
	if m.Kind == api.RaSnap {
		if m.Index > x.r.Commit && m.Index <= maxIndex && m.LogTerm >= 1 && m.LogTerm <= m.Term {
			clear(x.log)
			x.last, x.r.Commit, x.r.Roll.Base, x.r.Roll.BaseTerm = m.Index, m.Index, m.Index, m.LogTerm
		}
		x.say(api.Wire{Kind: api.RaAppendOk, To: m.From, Term: x.r.Term, Index: x.r.Commit})
		return
	}
	index, term, l := m.Index, m.LogTerm, m.Entries
	for index < x.r.Roll.Base {
		// One at a time.
		index++
		if len(l) > 0 {
			l = l[1:]
		}
		term = x.r.Roll.BaseTerm
	}
	if index > maxIndex || term < 0 || term > maxTerm || index+int64(len(l)) > maxIndex {
		return
	}
	ahead, goes := term, false
	for i, e := range l {
		if e.Term < ahead || e.Term > m.Term {
			return
		}
		ahead = e.Term
		at := index + int64(i) + 1
		if was := x.term(at); was >= 0 && was != e.Term && !goes {
			goes = true
			if at <= x.r.Commit {
				return
			}
		}
	}
	if x.term(index) != term {
		x.say(api.Wire{Kind: api.RaAppendOk, To: m.From, Term: x.r.Term, Reject: true, Index: m.Index, Hint: min(x.last, m.Index-1)})
		return
	}
	for i, e := range l {
		at := index + int64(i) + 1
		if x.term(at) == e.Term {
			continue
		}
		for ; x.last >= at; x.last-- {
			delete(x.log, x.last)
		}
		x.last, x.log[at] = at, e
	}
	index += int64(len(l))
	if n := min(m.Commit, index); n > x.r.Commit {
		x.r.Commit = n
	}
	x.say(api.Wire{Kind: api.RaAppendOk, To: m.From, Term: x.r.Term, Index: index})
}

func (x *model) hearBack(m api.Wire) {
	p, there := x.others[m.From]
	if x.r.Role != api.RoleLeader || !there || m.Index > x.last {
		return
	}
	if m.Reject {
		if m.Index != p.Next-1 {
			return
		}
		if m.Hint < p.Next-1 {
			p.Next = m.Hint + 1
		} else {
			p.Next--
		}
		p.Next = max(p.Next, p.Match+1, 1)
		x.others[m.From] = p
		x.tell(m.From)
		return
	}
	p.Match = max(p.Match, m.Index)
	p.Next = max(p.Next, p.Match+1)
	x.others[m.From] = p
	if !x.agree() && p.Next <= x.last {
		x.tell(m.From)
	}
}

// chance makes rafts, groups and messages of small numbers, so that they often
// have to do with one another.
type chance struct{ *rand.Rand }

// upTo is a number from 0 to n.
func (c chance) upTo(n int64) int64 {
	return c.Int64N(n + 1)
}

// terms are n rising Terms from one to another one.
func (c chance) terms(from, to int64, n int) []int64 {
	var l []int64
	for range n {
		l = append(l, from+c.upTo(to-from))
	}
	slices.Sort(l)
	return l
}

// group is one of one to five members, and now and then of none.
func (c chance) group() api.Desc {
	ids := []int64{1, 2, 3, 4, 5, 6, 7}
	c.Shuffle(len(ids), func(i, j int) { ids[i], ids[j] = ids[j], ids[i] })
	ids = ids[:c.IntN(6)]
	slices.Sort(ids)
	return group(ids...)
}

// raft is one that may be.
func (c chance) raft() api.Raft {
	r := api.Raft{Me: 1 + c.upTo(5), Term: c.upTo(5), Vote: c.upTo(6), Lead: c.upTo(6), Role: c.IntN(4), Age: c.IntN(12), Draw: 6 + c.IntN(6)}
	base := c.upTo(4)
	r.Roll = api.Roll{Base: base, BaseTerm: c.upTo(min(2, r.Term))}
	r.Roll.Entries = written(base+1, c.terms(r.Roll.BaseTerm, r.Term, c.IntN(12))...)
	r.Commit = base + c.upTo(int64(len(r.Roll.Entries)))
	for id := range int64(7) {
		if c.IntN(3) > 0 && r.Role != api.RoleFollower {
			r.Granted = append(r.Granted, id+1)
		}
		if p := (api.Progress{Id: id + 1, Next: 1 + c.upTo(14)}); c.IntN(3) > 0 && r.Role == api.RoleLeader {
			p.Match = c.upTo(p.Next - 1)
			r.Progress = append(r.Progress, p)
		}
	}
	return r
}

// wire is a message to r, most often one that may be.
func (c chance) wire(r api.Raft) api.Wire {
	m := api.Wire{Kind: c.IntN(9), From: c.upTo(8), To: r.Me, Term: r.Term + c.upTo(4) - 2, Index: c.upTo(16) - 1, LogTerm: c.upTo(6), Commit: c.upTo(20) - 1, Hint: c.upTo(16) - 2, Reject: c.IntN(2) == 0}
	if c.IntN(3) > 0 {
		// Such an entry as there is.
		m.LogTerm = max(modelOf(r, api.Desc{}).term(m.Index), 0)
	}
	if c.IntN(2) == 0 {
		m.Entries = written(m.Index+1, c.terms(min(m.LogTerm, 5), 6, c.IntN(10))...)
	}
	if c.IntN(2) == 0 && r.Roll.Base <= m.Index && m.Index <= r.Roll.Base+int64(len(r.Roll.Entries)) {
		m.Entries = append(slices.Clone(r.Roll.Entries[m.Index-r.Roll.Base:]), m.Entries...)
	}
	if len(m.Entries) > 0 && c.IntN(8) == 0 {
		m.Entries[c.IntN(len(m.Entries))].Term = c.upTo(8) - 1
	}
	if c.IntN(20) == 0 {
		m.To = c.upTo(7)
	}
	return m
}

func TestP13_4IsAsTheModel(t *testing.T) {
	c := chance{rand.New(rand.NewPCG(13, 4))}
	for range 300000 {
		r, d := c.raft(), c.group()
		m := c.wire(r)
		x := modelOf(copied(r), d)
		x.step(m)
		got, said := raft.Step(r, d, m)
		if !sameRaft(got, x.raft()) || !slices.EqualFunc(said, x.said, sameWire) {
			t.Fatalf("%s of %s in %s: %s %s, not %s %s", show(m), show(r), show(d), show(got), show(said), show(x.raft()), show(x.said))
		}
	}
}

func TestP13_3IsAsTheModel(t *testing.T) {
	c := chance{rand.New(rand.NewPCG(13, 3))}
	for range 100000 {
		r, d, draw := c.raft(), c.group(), c.IntN(60)-5
		x, y, z := modelOf(r, d), modelOf(r, d), modelOf(r, d)
		x.tick(draw)
		got, said := raft.Tick(r, d, draw)
		if !sameRaft(got, x.raft()) || !slices.EqualFunc(said, x.said, sameWire) {
			t.Fatalf("Tick of %s in %s: %s %s, not %s %s", show(r), show(d), show(got), show(said), show(x.raft()), show(x.said))
		}
		if r.Role == api.RoleLeader {
			y.write("x")
			z.tellAll()
			z.agree()
		}
		got, said, ok := raft.Propose(r, d, "x")
		if ok != (r.Role == api.RoleLeader) || !sameRaft(got, y.raft()) || !slices.EqualFunc(said, y.said, sameWire) {
			t.Fatalf("Propose of %s in %s: %s %s, not %s %s", show(r), show(d), show(got), show(said), show(y.raft()), show(y.said))
		}
		got, said = raft.Tell(r, d)
		if !sameRaft(got, z.raft()) || !slices.EqualFunc(said, z.said, sameWire) {
			t.Fatalf("Tell of %s in %s: %s %s, not %s %s", show(r), show(d), show(got), show(said), show(z.raft()), show(z.said))
		}
	}
}

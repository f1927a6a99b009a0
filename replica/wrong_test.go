package replica_test

import (
	"math"
	"slices"
	"testing"

	"furlong/api"
	"furlong/deed"
	"furlong/desc"
	"furlong/order"
	"furlong/replica"
)

// wildWires are messages of all kinds to r, with numbers at the edges and beyond
// them.
func wildWires(r api.Replica) []api.Wire {
	texts := []string{deed.Put(some()), deed.Put(other()), "", "x"}
	numbers := []int64{0, 1, 3, 5, 8, 9, -1, maxIndex, maxIndex + 1, math.MaxInt64, math.MinInt64}
	var l []api.Wire
	for kind := range 9 {
		for j, term := range []int64{1, 4, 5, 6, maxTerm} {
			for i, n := range numbers {
				next := numbers[(i*3+kind+4)%len(numbers)]
				m := api.Wire{Kind: kind, From: 1, To: r.Raft.Me, Term: term, Index: n, LogTerm: next, Commit: next, Hint: n, Text: texts[(i+j)%len(texts)]}
				l = append(l, m, but(m, func(m *api.Wire) {
					m.From, m.Index, m.LogTerm, m.Hint, m.Reject = 6, next, 4, next, true
					m.Entries = append(written(1, 4, 5), entry(5, add(3, 7)), api.Entry{Term: 5})
				}))
			}
		}
	}
	return append(l, api.Wire{}, api.Wire{Kind: -1, To: r.Raft.Me, From: 1, Term: 5})
}

// answer is what a call has answered, as far as there is any.
type answer struct {
	r     api.Replica
	wires []api.Wire
	dones []api.Done
	ok    bool
}

func sameAnswer(x, y answer) bool {
	return sameReplica(x.r, y.r) && slices.EqualFunc(x.wires, y.wires, sameWire) && slices.EqualFunc(x.dones, y.dones, sameDone) && x.ok == y.ok
}

// pure fails, unless a call answers, twice the same, and leaves r as it was.
func pure(t *testing.T, what string, r api.Replica, c func(r api.Replica) answer) {
	t.Helper()
	in := roomy(r)
	x := c(in)
	y := c(in)
	if !sameAnswer(x, y) {
		t.Fatalf("%s: of %s, %s, and %s", what, show(r), show(x), show(y))
	}
	grown(x.r)
	untouched(t, what, in, r)
}

// asks are all calls that have a part in neither a message nor a text.
func asks(draw int, o api.Order) map[string]func(r api.Replica) answer {
	return map[string]func(r api.Replica) answer{
		"Tick": func(r api.Replica) answer {
			x, l, d := replica.Tick(r, draw)
			return answer{x, l, d, true}
		},
		"Propose": func(r api.Replica) answer {
			x, l, d, ok := replica.Propose(r, o)
			return answer{x, l, d, ok}
		},
		"Refuses": func(r api.Replica) answer {
			reply, ok := replica.Refuses(r, o)
			return answer{dones: []api.Done{{Reply: reply}}, ok: ok}
		},
		"Compact": func(r api.Replica) answer { return answer{r: replica.Compact(r)} },
		"Put":     func(r api.Replica) answer { return answer{wires: []api.Wire{{Text: replica.Put(r)}}} },
		"Members": func(r api.Replica) answer { return answer{r: api.Replica{Plot: api.Plot{Desc: replica.Members(r)}}} },
		"Check and Blank": func(r api.Replica) answer {
			return answer{wires: []api.Wire{{Kind: int(replica.Check(r))}}, ok: replica.Blank(r)}
		},
	}
}

func TestP15_1ReplicasThatMayNotBe(t *testing.T) {
	orders := append(append(all(), mayNotBe()...), add(9, 7), remove(9, 1), remove(9, me))
	for _, c := range append(wrong(), right()...) {
		for i, o := range orders {
			for name, ask := range asks(i*7-3, o) {
				pure(t, c.name+": "+name, c.r, ask)
			}
		}
		for _, m := range wildWires(c.r) {
			pure(t, c.name+": Step", c.r, func(r api.Replica) answer {
				x, l, d := replica.Step(r, m)
				return answer{x, l, d, true}
			})
		}
	}
}

// All that has a part in a replica that may not be, at once.
func TestP15_1ReplicasOfWildNumbers(t *testing.T) {
	numbers := []int64{0, 1, 4, 8, 9, -1, maxIndex, maxIndex + 1, math.MaxInt64, math.MinInt64}
	for _, base := range numbers {
		for _, commit := range numbers {
			for _, applied := range numbers {
				for _, r := range []api.Replica{leader(), single(), blank()} {
					r := with(r, func(r *api.Replica) {
						r.Raft.Roll.Base, r.Raft.Commit, r.Applied = base, commit, applied
						r.Raft.Roll.Entries = append(r.Raft.Roll.Entries, entry(4, add(9, 7)))
						r.Raft.Age = 9
					})
					for name, ask := range asks(9, add(9, 5)) {
						pure(t, "wild: "+name, r, ask)
					}
					for _, m := range []api.Wire{behind(8, 4, 9), behind(base, 4, 9, written(9, 5)...), snap(9, 4, deed.Put(some())), reached(9)} {
						pure(t, "wild: Step", r, func(r api.Replica) answer {
							x, l, d := replica.Step(r, m)
							return answer{x, l, d, true}
						})
					}
				}
			}
		}
	}
}

// With nothing that may not be handed in, nothing that may not be is answered.
func TestP15_6AReplicaIsFollowedByAReplica(t *testing.T) {
	orders := append(append(all(), mayNotBe()...), add(9, 7), remove(9, 1), remove(9, me))
	for _, c := range right() {
		// Who comes to lead, where the log is full, writes an entry behind it.
		if c.r.Raft.Roll.Base == maxIndex {
			continue
		}
		for i, o := range orders {
			for _, name := range []string{"Tick", "Propose", "Compact"} {
				follows(t, c.name+": "+name, c.r, asks(i*7-3, o)[name](c.r))
			}
		}
		for _, m := range wildWires(c.r) {
			x, l, d := replica.Step(c.r, m)
			follows(t, c.name+": "+show(m), c.r, answer{x, l, d, true})
		}
	}
}

// follows fails, unless what was answered may become of r.
func follows(t *testing.T, what string, r api.Replica, x answer) {
	t.Helper()
	if replica.Check(x.r) != api.OK || x.r.Applied < r.Applied || x.r.Raft.Me != r.Raft.Me {
		t.Fatalf("%s: of %s: %s", what, show(r), show(x.r))
	}
	if r.Plot.Desc.Id != 0 && x.r.Plot.Desc.Id != r.Plot.Desc.Id {
		t.Fatalf("%s: another range: of %s: %s", what, show(r), show(x.r))
	}
	if len(x.dones) == 0 {
		return
	}
	// A copy brings no Dones with it: they lead from what was applied to what is.
	for i, d := range x.dones {
		if d.Index != r.Applied+1+int64(i) || d.Range != x.r.Plot.Desc.Id {
			t.Fatalf("%s: of %s: %s", what, show(r), show(x.dones))
		}
	}
	if x.dones[len(x.dones)-1].Index != x.r.Applied {
		t.Fatalf("%s: of %s: not all of %s", what, show(r), show(x.dones))
	}
}

// What is answered to one who has nothing to ask is nothing.
func TestP15_8AnswersAreZero(t *testing.T) {
	for _, c := range append(right(), wrong()...) {
		if reply, ok := replica.Refuses(c.r, put(9, "d", "x")); ok || !order.Same(reply, api.Reply{}) {
			t.Errorf("%s: %s", c.name, show(reply))
		}
		if d := replica.Members(c.r); replica.Blank(c.r) && !desc.Same(d, api.Desc{}) {
			t.Errorf("%s: %s", c.name, show(d))
		}
	}
}

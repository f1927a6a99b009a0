package session_test

import (
	"math"
	"slices"
	"testing"

	"furlong/api"
	"furlong/session"
)

func TestP8_1SessionsThatMayBe(t *testing.T) {
	for _, c := range right() {
		if !may(c.l) {
			t.Fatalf("%s: may not be", c.name)
		}
		if e := session.Check(c.l); e != api.OK {
			t.Errorf("%s: %d of %s", c.name, e, show(c.l))
		}
	}
}

func TestP8_1SessionsThatMayNotBe(t *testing.T) {
	for _, c := range wrong() {
		if may(c.l) {
			t.Fatalf("%s: may be", c.name)
		}
		if e := session.Check(c.l); e != api.ErrSession {
			t.Errorf("%s: %d of %s", c.name, e, show(c.l))
		}
	}
}

func TestP8_1ClientsRise(t *testing.T) {
	n := []int64{0, 1, 2, 3, maxSeq - 1, maxSeq, maxSeq + 1}
	for _, x := range n {
		for _, y := range n {
			for _, z := range n {
				want := api.ErrSession
				if 1 <= x && x < y && y < z && z <= maxSeq {
					want = api.OK
				}
				if e := session.Check([]api.Session{of(x, 1, ""), of(y, 1, ""), of(z, 1, "")}); e != want {
					t.Errorf("clients %d, %d, %d: %d, not %d", x, y, z, e, want)
				}
			}
		}
	}
}

func TestP8_1OneThatMayNotBeAnywhere(t *testing.T) {
	for i := range 64 {
		for _, change := range []func(s *api.Session){
			func(s *api.Session) { s.Seq = 0 },
			func(s *api.Session) { s.Seq = maxSeq + 1 },
			func(s *api.Session) { s.Client = 0 },
			func(s *api.Session) { s.Client-- },
			func(s *api.Session) { s.Reply.Code = 5 },
			func(s *api.Session) { s.Reply.Value = a(513) },
			func(s *api.Session) { s.Reply.Pairs = []api.Pair{{Key: "k"}} },
		} {
			l := row(1, 64)
			change(&l[i])
			if e := session.Check(l); e != api.ErrSession {
				t.Errorf("session %d of 64, %s: %d", i, show(l[i]), e)
			}
		}
	}
}

// finds holds what is found against what should be.
func finds(t *testing.T, l []api.Session, client int64, want api.Session, there bool) {
	t.Helper()
	if got, ok := session.Find(l, client); ok != there || !equal(got, want) {
		t.Errorf("Find(%s, %d): %s %t, not %s %t", show(l), client, show(got), ok, show(want), there)
	}
}

// asks holds what is answered at once against what should be.
func asks(t *testing.T, l []api.Session, client, seq int64, want api.Reply, there bool) {
	t.Helper()
	if got, ok := session.Ask(l, client, seq); ok != there || !alike(got, want) {
		t.Errorf("Ask(%s, %d, %d): %s %t, not %s %t", show(l), client, seq, show(got), ok, show(want), there)
	}
}

// nobody are clients that have no session in some, and wherever else none has
// one.
func nobody() []int64 {
	return []int64{2, 4, 6, 8, 10, 1, maxSeq, 0, -1, -3, -5, -9, maxSeq + 1, 1<<32 + 3, 1<<16 + 5, 1<<8 + 9, math.MaxInt64, math.MinInt64, math.MinInt64 + 3}
}

func TestP8_2FindIsTheClientsSession(t *testing.T) {
	for _, c := range right() {
		for _, s := range c.l {
			finds(t, c.l, s.Client, s, true)
		}
	}
	for n := range 65 {
		l := row(2, n)
		for client := int64(0); client <= 67; client++ {
			if i := client - 2; i >= 0 && i < int64(n) {
				finds(t, l, client, l[i], true)
			} else {
				finds(t, l, client, api.Session{}, false)
			}
		}
	}
}

func TestP8_2FindOfNobody(t *testing.T) {
	for _, client := range nobody() {
		finds(t, some(), client, api.Session{}, false)
		finds(t, nil, client, api.Session{}, false)
		finds(t, []api.Session{}, client, api.Session{}, false)
	}
	for _, client := range []int64{3, 5, 9} {
		finds(t, nil, client, api.Session{}, false)
	}
}

func TestP8_2AskAgain(t *testing.T) {
	for _, c := range right() {
		for _, s := range c.l {
			asks(t, c.l, s.Client, s.Seq, s.Reply, true)
		}
	}
}

func TestP8_2AskOfWhatIsOld(t *testing.T) {
	old := api.Reply{Code: api.ReOld}
	for _, c := range right() {
		for _, s := range c.l {
			for _, seq := range []int64{s.Seq - 1, s.Seq - 2, s.Seq / 2, 0, -1, -s.Seq, math.MinInt64, math.MinInt64 + s.Seq} {
				asks(t, c.l, s.Client, seq, old, true)
			}
		}
	}
	asks(t, some(), 3, 4, old, true)
	asks(t, some(), 3, 1, old, true)
	asks(t, some(), 9, 7, old, true)
}

func TestP8_2AskOfWhatIsNew(t *testing.T) {
	for _, c := range right() {
		for _, s := range c.l {
			for _, seq := range []int64{s.Seq + 1, s.Seq + 2, s.Seq * 2, maxSeq + 1, s.Seq + 1<<32, s.Seq + 1<<62, math.MaxInt64} {
				asks(t, c.l, s.Client, seq, api.Reply{}, false)
			}
		}
	}
	asks(t, some(), 3, 6, api.Reply{}, false)
	asks(t, some(), 5, 2, api.Reply{}, false)
}

func TestP8_2AskOfNobody(t *testing.T) {
	for _, client := range nobody() {
		for _, seq := range []int64{1, 5, 8, 0, -1, maxSeq, math.MaxInt64, math.MinInt64} {
			asks(t, some(), client, seq, api.Reply{}, false)
			asks(t, nil, client, seq, api.Reply{}, false)
		}
	}
}

// Whatever is handed in, there is an answer, and all stays as it was.
func TestP8_2FindAndAskLeaveAllAlone(t *testing.T) {
	for _, c := range slices.Concat(right(), wrong()) {
		l := roomy(c.l)
		session.Check(l)
		clients := nobody()
		for _, s := range c.l[:min(len(c.l), 10)] {
			clients = append(clients, s.Client, s.Client+1, s.Client-1)
		}
		for _, client := range clients {
			session.Find(l, client)
			for _, seq := range []int64{0, 1, 5, maxSeq, math.MinInt64, math.MaxInt64} {
				session.Ask(l, client, seq)
			}
		}
		alone(t, c.name, l, c.l)
	}
}

func TestP8_2WhatIsFoundIsNew(t *testing.T) {
	for _, c := range slices.Concat(right(), wrong()) {
		l := roomy(c.l)
		for _, s := range c.l[:min(len(c.l), 100)] {
			found, _ := session.Find(l, s.Client)
			scribblePairs(found.Reply.Pairs)
			r, _ := session.Ask(l, s.Client, s.Seq)
			scribblePairs(r.Pairs)
		}
		alone(t, c.name, l, c.l)
	}
}

// The chapter's own example.
func TestP8_2Example(t *testing.T) {
	l := []api.Session{of(3, 5, "x")}
	asks(t, l, 3, 5, api.Reply{Value: "x"}, true)
	asks(t, l, 3, 4, api.Reply{Code: api.ReOld}, true)
	asks(t, l, 3, 6, api.Reply{}, false)
}

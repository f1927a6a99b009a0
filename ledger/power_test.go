package ledger_test

import (
	"math/rand/v2"
	"slices"
	"strings"
	"testing"

	"furlong/api"
	"furlong/ledger"
	"furlong/reel"
)

// state is all that a ledger tells.
type state struct {
	epoch   int64
	base    string
	records []string
}

// after is the state behind a call that is OK.
func (s state) after(c call, text string) state {
	if c.name == "Base" {
		return state{epoch: s.epoch + 1, base: text}
	}
	return state{s.epoch, s.base, append(slices.Clip(s.records), text)}
}

// same is whether two states are.
func (s state) same(o state) bool {
	return s.epoch == o.epoch && s.base == o.base && slices.Equal(s.records, o.records)
}

// told is the state that Open tells.
func told(r *reel.Reel) (*ledger.Ledger, state, api.Errno) {
	l, b, out, e := ledger.Open(r)
	return l, state{l.Epoch(), b, out}, e
}

// step is a call with its text.
type step struct {
	call
	text string
}

// steps are a ledger's life, in which each tape is the ledger more than once.
func steps() []step {
	add, base := calls()[0], calls()[1]
	return []step{{add, "one"}, {add, ""}, {base, "all"}, {add, rec(2, "x")}, {base, base1()}, {base, ""}, {add, "four"}, {add, "five"}}
}

// base1 is a text that a base begins with, too.
func base1() string { return base(1, "") }

// live opens a ledger and goes on till the power fails: the state behind the
// last call that was OK, and that behind the one that was under way.
func live(t *testing.T, r *reel.Reel) (state, state) {
	t.Helper()
	now := state{epoch: 1}
	l, _, e := told(r)
	if e != api.OK {
		must(t, "Open", e, api.ErrDead)
		return now, now
	}
	for _, c := range steps() {
		next := now.after(c.call, c.text)
		if e := c.do(l, c.text); e != api.OK {
			must(t, c.name, e, api.ErrDead)
			return now, next
		}
		now = next
	}
	return now, now
}

// lasts holds what Open tells against two states, and that the ledger goes on
// from there.
func lasts(t *testing.T, r *reel.Reel, now, next state) {
	t.Helper()
	l, s, e := told(r)
	if e != api.OK || !s.same(now) && !s.same(next) {
		t.Fatalf("Open: %v, error %d, neither %v nor %v", s, e, now, next)
	}
	for _, c := range calls() {
		s = s.after(c, "later")
		must(t, c.name, c.do(l, "later"), api.OK)
		if _, found, e := told(r); e != api.OK || !found.same(s) {
			t.Fatalf("Open behind %s: %v, error %d, not %v", c.name, found, e, s)
		}
	}
}

// tails are those that differ, for tapes of which at most so many bytes are
// not safe.
func tails(most int) []api.Tail {
	l := []api.Tail{{Keep: [api.Tapes]int{-1, -1}}, {Keep: [api.Tapes]int{room, room}}, {Keep: [api.Tapes]int{room, 0}}, {Keep: [api.Tapes]int{0, room}}}
	for n := range most + 1 {
		for _, turn := range []byte{0, 1, 128, 255} {
			l = append(l, api.Tail{Keep: [api.Tapes]int{n, n}, Turn: turn})
		}
	}
	return l
}

// unsafe is the most bytes of a page of the steps, and one.
func unsafe() int {
	n := 0
	for _, c := range steps() {
		n = max(n, len(base(9, c.text)))
	}
	return n + 1
}

func TestP4_6PowerFailsAheadOfEachOperation(t *testing.T) {
	n := 0
	for ; ; n++ {
		alive := false
		for _, a := range tails(unsafe()) {
			r := made(t, room)
			r.Arm(n)
			now, next := live(t, r)
			alive = !r.Dead()
			r.Crash(a)
			lasts(t, r, now, next)
		}
		if alive {
			break
		}
	}
	want := 2
	for _, c := range steps() {
		want += c.ops
	}
	if n != want {
		t.Errorf("operations: %d, not %d", n, want)
	}
}

// The power fails again while what is left is opened, and once more.
func TestP4_6PowerFailsInOpenToo(t *testing.T) {
	some := tails(unsafe())
	rnd := rand.New(rand.NewPCG(4, 6))
	for n := range 30 {
		for _, a := range some {
			for m := range 4 {
				r := made(t, room)
				r.Arm(n)
				now, next := live(t, r)
				r.Crash(a)
				for k := range 2 {
					r.Arm((m + k) % 4)
					if _, s, e := told(r); e == api.OK {
						now, next = s, s
					} else {
						must(t, "Open", e, api.ErrDead)
					}
					r.Crash(some[rnd.IntN(len(some))])
				}
				lasts(t, r, now, next)
			}
		}
	}
}

// What Open has told once is what it tells from then on, also where it was the
// call that was under way.
func TestP4_6WhatWasToldStays(t *testing.T) {
	for n := range 30 {
		for _, a := range tails(unsafe()) {
			r := made(t, room)
			r.Arm(n)
			live(t, r)
			r.Crash(a)
			_, first, _ := told(r)
			r.Crash(api.Tail{})
			if _, second, e := told(r); e != api.OK || !second.same(first) {
				t.Fatalf("Open again: %v, error %d, not %v", second, e, first)
			}
		}
	}
}

// life is a ledger on a reel whose power fails now and then, and the state that
// it should have.
type life struct {
	t   *testing.T
	rnd *rand.Rand
	r   *reel.Reel
	l   *ledger.Ledger
	now state
}

// tail keeps anything.
func (f *life) tail() api.Tail {
	n := func() int { return f.rnd.IntN(60) - 2 }
	return api.Tail{Keep: [api.Tapes]int{n(), n()}, Turn: byte(f.rnd.IntN(3) * f.rnd.IntN(128))}
}

// arm lets the power fail soon, now and then.
func (f *life) arm() {
	if f.rnd.IntN(4) == 0 {
		f.r.Arm(f.rnd.IntN(6))
	}
}

// open opens the ledger till there is power enough, and holds it against now
// and next.
func (f *life) open(next state) {
	f.t.Helper()
	for {
		f.r.Crash(f.tail())
		f.arm()
		l, s, e := told(f.r)
		if e == api.ErrDead {
			continue
		}
		if e != api.OK || !s.same(f.now) && !s.same(next) {
			f.t.Fatalf("Open: %v, error %d, neither %v nor %v", s, e, f.now, next)
		}
		f.l, f.now = l, s
		return
	}
}

// write does a call with any text, and holds what comes of it.
func (f *life) write() {
	f.t.Helper()
	c := calls()[f.rnd.IntN(9)/8]
	text := strings.Repeat([]string{"a", "0:,", "\xff"}[f.rnd.IntN(3)], f.rnd.IntN(9))
	full := f.r.Free() < len(base(f.now.epoch+1, text))
	if c.name == "Add" {
		full = f.r.Free() < len(rec(int64(len(f.now.records))+1, text))
	}
	next := f.now.after(c, text)
	switch e := c.do(f.l, text); {
	case e == api.OK && !full:
		f.now = next
	case e == api.ErrFull && full:
	case e == api.ErrDead && f.r.Dead():
		stands(f.t, f.l, f.now.epoch, len(f.now.records), true)
		must(f.t, c.name+" of a broken one", c.do(f.l, text), api.ErrLedger)
		f.open(next)
	default:
		f.t.Fatalf("%s: error %d, full %v, dead %v", c.name, e, full, f.r.Dead())
	}
	stands(f.t, f.l, f.now.epoch, len(f.now.records), false)
}

func TestP4_6LivesOfManyLedgers(t *testing.T) {
	for seed := range uint64(1000) {
		rnd := rand.New(rand.NewPCG(seed, 6))
		f := &life{t: t, rnd: rnd, r: made(t, len(base(1, ""))+rnd.IntN(400)), now: state{epoch: 1}}
		f.open(f.now)
		for range 60 {
			f.arm()
			if rnd.IntN(10) == 0 {
				f.open(f.now)
			}
			f.write()
		}
		if t.Failed() {
			t.Fatalf("seed %d", seed)
		}
	}
}

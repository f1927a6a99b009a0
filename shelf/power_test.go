package shelf_test

import (
	"maps"
	"math/rand/v2"
	"strings"
	"testing"

	"furlong/api"
	"furlong/reel"
	"furlong/shelf"
)

// step is a Commit of some changes, or a Pack.
type step struct {
	pack bool
	l    []api.Change
}

// do does the step.
func (c step) do(s *shelf.Shelf) api.Errno {
	if c.pack {
		return s.Pack()
	}
	return s.Commit(c.l...)
}

// after is the world behind the step.
func (c step) after(w world) world {
	return w.after(c.l...)
}

// ops is how many operations of the reel the step takes.
func (c step) ops() int {
	if c.pack {
		return 3
	}
	return 2
}

func commit(l ...api.Change) step { return step{l: l} }

// steps are a shelf's life, in which each tape is the ledger more than once,
// and what a part of a Commit would leave is no world of a whole one.
func steps() []step {
	return []step{
		commit(put("a", "1"), put("b", "2")),
		commit(gone("a"), put("b", "3"), put("c", "4")),
		{pack: true},
		commit(put("a", text(put("x", "y"))), gone("c")),
		{pack: true},
		{pack: true},
		commit(gone("a"), gone("b"), put("d", "")),
		commit(gone("d")),
		{pack: true},
		commit(put("e", "5"), put("f", "6"), gone("e")),
	}
}

// live opens a shelf and goes on till the power fails: the world behind the
// last call that was OK, and that behind the one that was under way.
func live(t *testing.T, r *reel.Reel) (world, world) {
	t.Helper()
	now := world{}
	s, e := shelf.Open(r)
	if e != api.OK {
		must(t, "Open", e, api.ErrDead)
		return now, now
	}
	for _, c := range steps() {
		next := c.after(now)
		if e := c.do(s); e != api.OK {
			must(t, "a step", e, api.ErrDead)
			stands(t, s, now, s.Records(), true)
			return now, next
		}
		now = next
	}
	return now, now
}

// found is the world that a shelf has.
func found(s *shelf.Shelf) world {
	w := world{}
	for _, p := range s.Scan("", "") {
		w[p.Key] = p.Value
	}
	return w
}

// lasts holds what Open finds against two worlds, and that the shelf goes on
// from there.
func lasts(t *testing.T, r *reel.Reel, now, next world) {
	t.Helper()
	s, e := shelf.Open(r)
	if e != api.OK {
		t.Fatalf("Open: error %d", e)
	}
	w := found(s)
	if !maps.Equal(w, now) && !maps.Equal(w, next) {
		t.Fatalf("Open: %v, neither %v nor %v", w, now, next)
	}
	for _, c := range []step{commit(put("later", "1"), gone("b")), {pack: true}} {
		w = c.after(w)
		must(t, "a later step", c.do(s), api.OK)
		opened(t, r, w, s.Records())
	}
}

// tails are those that differ, for tapes of which at most so many bytes are
// not safe.
func tails(most int) []api.Tail {
	l := []api.Tail{{Keep: [api.Tapes]int{-1, -1}}, {Keep: [api.Tapes]int{room, room}}, {Keep: [api.Tapes]int{room, 0}}, {Keep: [api.Tapes]int{0, room}}}
	for n := range most + 1 {
		for _, turn := range []byte{0, 1, 128, 255} {
			l = append(l, api.Tail{Keep: [api.Tapes]int{n, n}, Turn: turn})
		}
	}
	return l
}

// longest is more than the bytes of a page of the steps.
func longest() int {
	n := 0
	for _, c := range steps() {
		n = max(n, len(text(c.l...)))
	}
	return n + 40
}

func TestP5_6PowerFailsAheadOfEachOperation(t *testing.T) {
	n := 0
	for ; ; n++ {
		alive := false
		for _, a := range tails(longest()) {
			r := made(t, room)
			r.Arm(n)
			now, next := live(t, r)
			alive = !r.Dead()
			r.Crash(a)
			lasts(t, r, now, next)
		}
		if t.Failed() {
			t.Fatalf("operation %d", n)
		}
		if alive {
			break
		}
	}
	want := 2
	for _, c := range steps() {
		want += c.ops()
	}
	if n != want {
		t.Errorf("operations: %d, not %d", n, want)
	}
}

// The power fails again while what is left is opened, and once more.
func TestP5_6PowerFailsInOpenToo(t *testing.T) {
	some := tails(longest())
	rnd := rand.New(rand.NewPCG(5, 6))
	for n := range 26 {
		for _, a := range some {
			r := made(t, room)
			r.Arm(n)
			now, next := live(t, r)
			r.Crash(a)
			for range 2 {
				r.Arm(rnd.IntN(3))
				if s, e := shelf.Open(r); e == api.OK {
					now = found(s)
					next = now
				} else {
					must(t, "Open", e, api.ErrDead)
				}
				r.Crash(some[rnd.IntN(len(some))])
			}
			lasts(t, r, now, next)
		}
	}
}

// life is a shelf on a reel whose power fails now and then, and the world that
// it should have.
type life struct {
	t   *testing.T
	rnd *rand.Rand
	r   *reel.Reel
	s   *shelf.Shelf
	now world
}

// arm lets the power fail soon, now and then.
func (f *life) arm() {
	if f.rnd.IntN(4) == 0 {
		f.r.Arm(f.rnd.IntN(6))
	}
}

// open opens the shelf till there is power enough, and holds it against now
// and next.
func (f *life) open(next world) {
	f.t.Helper()
	for {
		n := func() int { return f.rnd.IntN(90) - 2 }
		f.r.Crash(api.Tail{Keep: [api.Tapes]int{n(), n()}, Turn: byte(f.rnd.IntN(3) * f.rnd.IntN(128))})
		f.arm()
		s, e := shelf.Open(f.r)
		if e == api.ErrDead {
			continue
		}
		if e != api.OK {
			f.t.Fatalf("Open: error %d", e)
		}
		w := found(s)
		if !maps.Equal(w, f.now) && !maps.Equal(w, next) {
			f.t.Fatalf("Open: %v, neither %v nor %v", w, f.now, next)
		}
		f.s, f.now = s, w
		return
	}
}

// step does anything, and holds what comes of it.
func (f *life) step() {
	f.t.Helper()
	c := commit(append(anyChanges(f.rnd), put("n", strings.Repeat("x", f.rnd.IntN(9))))...)
	if f.rnd.IntN(5) == 0 {
		c = step{pack: true}
	}
	next := c.after(f.now)
	records := f.s.Records()
	switch e := c.do(f.s); {
	case e == api.OK && c.pack:
		has(f.t, f.s, f.now, 0)
	case e == api.OK:
		f.now = next
		has(f.t, f.s, f.now, records+1)
	case e == api.ErrFull && !f.r.Dead():
		has(f.t, f.s, f.now, records)
	case e == api.ErrDead && f.r.Dead():
		stands(f.t, f.s, f.now, records, true)
		must(f.t, "Commit of a broken one", f.s.Commit(put("a", "1")), api.ErrLedger)
		f.open(next)
	default:
		f.t.Fatalf("a step: error %d, dead %v", e, f.r.Dead())
	}
}

func TestP5_6LivesOfManyShelves(t *testing.T) {
	for seed := range uint64(1000) {
		rnd := rand.New(rand.NewPCG(seed, 56))
		f := &life{t: t, rnd: rnd, r: made(t, 100+rnd.IntN(1500)), now: world{}}
		f.open(f.now)
		for range 50 {
			f.arm()
			if rnd.IntN(10) == 0 {
				f.open(f.now)
			}
			f.step()
		}
		if t.Failed() {
			t.Fatalf("seed %d", seed)
		}
	}
}

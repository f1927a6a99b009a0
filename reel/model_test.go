package reel_test

import (
	"math/rand/v2"
	"testing"

	"furlong/api"
	"furlong/reel"
)

// cell is a byte of a tape, as the model keeps it.
type cell struct {
	c    byte
	safe bool
}

// model is a reel byte by byte, as the chapter tells it.
type model struct {
	room  int
	tapes [api.Tapes][]cell
	armed bool
	more  int
	off   bool
	ops   int
}

// used is how many bytes both tapes have.
func (m *model) used() int {
	return len(m.tapes[0]) + len(m.tapes[1])
}

// operate does an operation of the kind that is named by its first letter.
func (m *model) operate(kind byte, n, k int, s string) api.Errno {
	if n != 0 && n != 1 || kind == 'T' && k < 0 {
		return api.ErrArg
	}
	if m.armed && m.more == 0 {
		m.off = true
	}
	if m.off {
		return api.ErrDead
	}
	m.more--
	if kind == 'W' && m.used()+len(s) > m.room {
		return api.ErrFull
	}
	if kind == 'T' && k > len(m.tapes[n]) {
		return api.ErrArg
	}
	m.ops++
	switch kind {
	case 'W':
		for i := range len(s) {
			m.tapes[n] = append(m.tapes[n], cell{s[i], false})
		}
	case 'S':
		for i := range m.tapes[n] {
			m.tapes[n][i].safe = true
		}
	case 'E':
		m.tapes[n] = nil
	case 'T':
		m.tapes[n] = m.tapes[n][:k]
	}
	return api.OK
}

// crash leaves what is safe, and some bytes behind it.
func (m *model) crash(a api.Tail) {
	for n := range m.tapes {
		var left []cell
		behind := 0
		for _, c := range m.tapes[n] {
			if !c.safe {
				behind++
			}
			if c.safe || behind <= a.Keep[n] {
				left = append(left, c)
			}
		}
		if len(left) > 0 && !left[len(left)-1].safe {
			left[len(left)-1].c ^= a.Turn
		}
		for i := range left {
			left[i].safe = true
		}
		m.tapes[n] = left
	}
	m.off, m.armed = false, false
}

// read is all that a tape has.
func (m *model) read(n int) (string, api.Errno) {
	if n != 0 && n != 1 {
		return "", api.ErrArg
	}
	if m.off {
		return "", api.ErrDead
	}
	var b []byte
	for _, c := range m.tapes[n] {
		b = append(b, c.c)
	}
	return string(b), api.OK
}

// operate does with r what the model does with itself.
func operate(r *reel.Reel, kind byte, n, k int, s string) api.Errno {
	switch kind {
	case 'W':
		return r.Write(n, s)
	case 'S':
		return r.Sync(n)
	case 'E':
		return r.Wipe(n)
	}
	return r.Trim(n, k)
}

// alike holds all that r tells against the model.
func alike(t *testing.T, r *reel.Reel, m *model) {
	t.Helper()
	for n := -1; n <= api.Tapes; n++ {
		s, e := r.Read(n)
		if want, f := m.read(n); s != want || e != f {
			t.Fatalf("Read(%d): %q and %d, not %q and %d", n, s, e, want, f)
		}
	}
	if r.Free() != m.room-m.used() || r.Dead() != m.off || r.Ops() != m.ops {
		t.Fatalf("free %d, dead %v, operations %d, not %d, %v, %d", r.Free(), r.Dead(), r.Ops(), m.room-m.used(), m.off, m.ops)
	}
}

func TestP3_2ToP3_5AsTheModelDoes(t *testing.T) {
	for seed := range uint64(300) {
		rnd := rand.New(rand.NewPCG(seed, 3))
		m := &model{room: rnd.IntN(30)}
		r := made(t, m.room)
		for range 300 {
			switch rnd.IntN(12) {
			case 0:
				a := api.Tail{Keep: [api.Tapes]int{rnd.IntN(12) - 2, rnd.IntN(12) - 2}, Turn: byte(rnd.IntN(256))}
				r.Crash(a)
				m.crash(a)
			case 1:
				n := rnd.IntN(12) - 2
				r.Arm(n)
				m.armed, m.more = n >= 0, n
			default:
				kind := "WWWWSSTTE"[rnd.IntN(9)]
				n, k := rnd.IntN(2), rnd.IntN(14)-1
				if rnd.IntN(10) == 0 {
					n = rnd.IntN(5) - 2
				}
				s := "0123456789abcdef"[rnd.IntN(9):][:rnd.IntN(8)]
				got, want := operate(r, kind, n, k, s), m.operate(kind, n, k, s)
				if got != want {
					t.Fatalf("seed %d: %c(%d, %d, %q): %d, not %d", seed, kind, n, k, s, got, want)
				}
			}
			alike(t, r, m)
		}
	}
}

package reel_test

import (
	"math"
	"strings"
	"testing"

	"furlong/api"
	"furlong/reel"
)

// operations are one of each kind that is done on a tape that has bytes and
// room.
func operations() []func(r *reel.Reel) api.Errno {
	return []func(r *reel.Reel) api.Errno{
		func(r *reel.Reel) api.Errno { return r.Write(0, "x") },
		func(r *reel.Reel) api.Errno { return r.Sync(0) },
		func(r *reel.Reel) api.Errno { return r.Trim(0, 0) },
		func(r *reel.Reel) api.Errno { return r.Wipe(0) },
	}
}

func TestP3_4ArmCountsOperations(t *testing.T) {
	for n := range 8 {
		r := made(t, 100)
		r.Arm(n)
		if r.Dead() {
			t.Errorf("Arm(%d): the power is off ahead of an operation", n)
		}
		for i := range n {
			op := operations()[i%4]
			must(t, "an operation ahead of the last one", op(r), api.OK)
			if r.Dead() {
				t.Errorf("Arm(%d): the power is off behind %d operations", n, i+1)
			}
		}
		must(t, "the one behind them", operations()[n%4](r), api.ErrDead)
		if !r.Dead() || r.Ops() != n {
			t.Errorf("Arm(%d): dead %v, operations %d", n, r.Dead(), r.Ops())
		}
		for _, op := range operations() {
			must(t, "an operation without power", op(r), api.ErrDead)
		}
		r.Crash(api.Tail{})
		for range 20 {
			for _, op := range operations() {
				must(t, "an operation behind the crash", op(r), api.OK)
			}
		}
	}
}

func TestP3_4TheOneWithWhichItGoesOffDoesNothing(t *testing.T) {
	for i, op := range operations() {
		r := made(t, 10)
		must(t, "Write", r.Write(0, "ab"), api.OK)
		must(t, "Sync", r.Sync(0), api.OK)
		must(t, "Write", r.Write(0, "cd"), api.OK)
		r.Arm(0)
		must(t, "the operation", op(r), api.ErrDead)
		must(t, "the operation again", op(r), api.ErrDead)
		r.Crash(api.Tail{Keep: [api.Tapes]int{9, 9}})
		has(t, r, 0, "abcd")
		if r.Ops() != 3 {
			t.Errorf("operation %d: %d are counted", i, r.Ops())
		}
		must(t, "Write", r.Write(0, "ef"), api.OK)
		r.Crash(api.Tail{})
		has(t, r, 0, "abcd")
	}
	r := made(t, 10)
	must(t, "Write", r.Write(0, "ab"), api.OK)
	r.Arm(0)
	must(t, "Sync", r.Sync(0), api.ErrDead)
	r.Crash(api.Tail{})
	has(t, r, 0, "")
}

func TestP3_4WhatIsNoOperationIsNotCounted(t *testing.T) {
	r := made(t, 4)
	must(t, "Write", r.Write(0, "ab"), api.OK)
	r.Arm(1)
	for _, n := range noTapes() {
		must(t, "Write", r.Write(n, "a"), api.ErrArg)
		must(t, "Sync", r.Sync(n), api.ErrArg)
		must(t, "Wipe", r.Wipe(n), api.ErrArg)
		must(t, "Trim", r.Trim(n, 0), api.ErrArg)
	}
	must(t, "Trim", r.Trim(0, -1), api.ErrArg)
	must(t, "Trim", r.Trim(1, math.MinInt), api.ErrArg)
	for range 3 {
		has(t, r, 0, "ab")
		if r.Free() != 2 || r.Dead() || r.Ops() != 1 {
			t.Errorf("free %d, dead %v, operations %d", r.Free(), r.Dead(), r.Ops())
		}
	}
	must(t, "the one that is done yet", r.Sync(1), api.OK)
	for _, n := range noTapes() {
		must(t, "Sync", r.Sync(n), api.ErrArg)
	}
	must(t, "Trim", r.Trim(0, -1), api.ErrArg)
	if r.Dead() {
		t.Error("the power went off with what is no operation")
	}
	must(t, "the one behind it", r.Sync(1), api.ErrDead)
}

func TestP3_4ARefusedOperationIsCounted(t *testing.T) {
	for _, op := range []func(r *reel.Reel) api.Errno{
		func(r *reel.Reel) api.Errno { return r.Write(1, "abc") },
		func(r *reel.Reel) api.Errno { return r.Trim(0, 3) },
	} {
		r := made(t, 4)
		must(t, "Write", r.Write(0, "ab"), api.OK)
		r.Arm(1)
		if e := op(r); e != api.ErrFull && e != api.ErrArg {
			t.Errorf("what cannot be done: error %d", e)
		}
		must(t, "the one behind it", r.Sync(0), api.ErrDead)
		r.Crash(api.Tail{Keep: [api.Tapes]int{2, 0}})
		r.Arm(0)
		must(t, "what cannot be done, without power", op(r), api.ErrDead)
		if !r.Dead() || r.Ops() != 1 {
			t.Errorf("dead %v, operations %d", r.Dead(), r.Ops())
		}
	}
}

func TestP3_4ErrorsOfATapeComeAheadOfThePower(t *testing.T) {
	r := made(t, 4)
	r.Arm(0)
	must(t, "Trim", r.Trim(0, -1), api.ErrArg)
	must(t, "Sync", r.Sync(0), api.ErrDead)
	for _, n := range noTapes() {
		must(t, "Write", r.Write(n, "a"), api.ErrArg)
		must(t, "Sync", r.Sync(n), api.ErrArg)
		must(t, "Wipe", r.Wipe(n), api.ErrArg)
		must(t, "Trim", r.Trim(n, 0), api.ErrArg)
	}
	must(t, "Trim", r.Trim(0, -1), api.ErrArg)
	must(t, "Trim of too few bytes", r.Trim(0, 1), api.ErrDead)
	must(t, "Write of too much", r.Write(0, "abcde"), api.ErrDead)
}

func TestP3_4ArmAgain(t *testing.T) {
	r := made(t, 4)
	r.Arm(1)
	r.Arm(3)
	for range 3 {
		must(t, "Sync", r.Sync(0), api.OK)
	}
	r.Arm(-1)
	for range 10 {
		must(t, "Sync", r.Sync(0), api.OK)
	}
	for _, n := range []int{-1, -2, math.MinInt, math.MaxInt} {
		r.Arm(0)
		r.Arm(n)
		for range 100 {
			must(t, "Sync", r.Sync(0), api.OK)
		}
	}
	r.Arm(0)
	must(t, "Sync", r.Sync(0), api.ErrDead)
	for _, n := range []int{-1, 0, 5} {
		r.Arm(n)
		must(t, "Sync without power", r.Sync(0), api.ErrDead)
		if !r.Dead() {
			t.Errorf("Arm(%d) has put the power on", n)
		}
	}
	r.Arm(0)
	r.Crash(api.Tail{})
	must(t, "Sync behind a crash", r.Sync(0), api.OK)
	r.Arm(0)
	r.Crash(api.Tail{})
	must(t, "Sync behind a crash with the power on", r.Sync(0), api.OK)
}

func TestP3_4CrashKeepsAndTurns(t *testing.T) {
	for _, c := range []struct {
		keep int
		turn byte
		want string
	}{
		{0, 0, "ab"}, {0, 255, "ab"}, {-1, 255, "ab"}, {math.MinInt, 1, "ab"},
		{1, 0, "abc"}, {1, 1, "abb"}, {2, 0, "abcd"}, {2, 7, "abcc"}, {3, 0x80, "abcd\xe5"},
		{4, 0x80, "abcd\xe5"}, {math.MaxInt, 0x80, "abcd\xe5"}, {math.MaxInt, 0, "abcde"},
		{1 << 32, 0, "abcde"}, {1<<32 + 1, 0, "abcde"},
	} {
		for n := range api.Tapes {
			r := made(t, 20)
			must(t, "Write", r.Write(n, "ab"), api.OK)
			must(t, "Sync", r.Sync(n), api.OK)
			must(t, "Write", r.Write(n, "cd"), api.OK)
			must(t, "Write", r.Write(n, "e"), api.OK)
			must(t, "Write to the other one", r.Write(1-n, "xyz"), api.OK)
			tail := api.Tail{Keep: [api.Tapes]int{1, 1}, Turn: c.turn}
			tail.Keep[n] = c.keep
			r.Crash(tail)
			has(t, r, n, c.want)
			has(t, r, 1-n, string([]byte{'x' ^ c.turn}))
			if r.Free() != 20-len(c.want)-1 {
				t.Errorf("Crash(%v): free %d", tail, r.Free())
			}
			r.Crash(api.Tail{Turn: 255})
			has(t, r, n, c.want)
			has(t, r, 1-n, string([]byte{'x' ^ c.turn}))
		}
	}
}

func TestP3_4CrashTurnsNothingThatIsSafe(t *testing.T) {
	r := made(t, 20)
	must(t, "Write", r.Write(0, "ab"), api.OK)
	must(t, "Sync", r.Sync(0), api.OK)
	for _, keep := range []int{-1, 0, 1, math.MaxInt} {
		r.Crash(api.Tail{Keep: [api.Tapes]int{keep, keep}, Turn: 255})
		has(t, r, 0, "ab")
		has(t, r, 1, "")
	}
}

func TestP3_4CrashPutsThePowerOn(t *testing.T) {
	r := made(t, 20)
	must(t, "Write", r.Write(0, "ab"), api.OK)
	r.Arm(0)
	must(t, "Sync", r.Sync(0), api.ErrDead)
	r.Crash(api.Tail{Keep: [api.Tapes]int{1, 0}})
	if r.Dead() {
		t.Error("the power is off behind a crash")
	}
	has(t, r, 0, "a")
	must(t, "Write", r.Write(0, "c"), api.OK)
	has(t, r, 0, "ac")
}

func TestP3_4OpsCountsWhatWasDone(t *testing.T) {
	r := made(t, 3)
	want := 0
	for range 3 {
		for _, op := range operations() {
			must(t, "an operation", op(r), api.OK)
			want++
			if r.Ops() != want {
				t.Errorf("operations: %d, not %d", r.Ops(), want)
			}
		}
		must(t, "Write", r.Write(0, strings.Repeat("a", 4)), api.ErrFull)
		must(t, "Write", r.Write(2, "a"), api.ErrArg)
		must(t, "Trim", r.Trim(0, 9), api.ErrArg)
		r.Arm(0)
		must(t, "Sync", r.Sync(0), api.ErrDead)
		r.Crash(api.Tail{})
		if r.Ops() != want {
			t.Errorf("operations behind what was refused: %d, not %d", r.Ops(), want)
		}
	}
}

func TestP3_4NilHasNothing(t *testing.T) {
	var r *reel.Reel
	for _, n := range []int{-1, 0, 1, math.MaxInt} {
		r.Arm(n)
		r.Crash(api.Tail{Keep: [api.Tapes]int{n, n}, Turn: 1})
		if r.Free() != 0 || r.Dead() || r.Ops() != 0 {
			t.Errorf("nil: free %d, dead %v, operations %d", r.Free(), r.Dead(), r.Ops())
		}
	}
}

func TestP3_5WhatIsSafeStays(t *testing.T) {
	r := made(t, 100)
	want := ""
	for i, s := range []string{"ab", "", "cde", "f"} {
		must(t, "Write", r.Write(1, s), api.OK)
		must(t, "Sync", r.Sync(1), api.OK)
		want += s
		must(t, "Write", r.Write(1, "unsafe"), api.OK)
		r.Arm(i % 2)
		r.Sync(0)
		r.Crash(api.Tail{Keep: [api.Tapes]int{0, -i}, Turn: 255})
		has(t, r, 1, want)
	}
	for range 3 {
		r.Crash(api.Tail{Keep: [api.Tapes]int{9, 9}, Turn: 255})
		has(t, r, 1, want)
	}
	must(t, "Trim", r.Trim(1, 3), api.OK)
	r.Crash(api.Tail{Keep: [api.Tapes]int{9, 9}, Turn: 255})
	has(t, r, 1, want[:3])
	must(t, "Wipe", r.Wipe(1), api.OK)
	r.Crash(api.Tail{Keep: [api.Tapes]int{9, 9}, Turn: 255})
	has(t, r, 1, "")
}

func TestExample1(t *testing.T) {
	r := made(t, 100)
	must(t, "Write", r.Write(0, "ab"), api.OK)
	must(t, "Sync", r.Sync(0), api.OK)
	must(t, "Write", r.Write(0, "cd"), api.OK)
	r.Crash(api.Tail{Keep: [api.Tapes]int{1, 0}})
	has(t, r, 0, "abc")
}

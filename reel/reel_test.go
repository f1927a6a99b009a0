package reel_test

import (
	"math"
	"strings"
	"testing"

	"furlong/api"
	"furlong/reel"
)

// noTapes are numbers that no tape has, those among them that a narrower
// integer would take for one.
func noTapes() []int {
	return []int{-1, -2, 2, 3, 100, 256, 257, 1 << 32, 1<<32 + 1, math.MaxInt, math.MinInt, math.MinInt + 1}
}

// made is a new reel of room bytes.
func made(t *testing.T, room int) *reel.Reel {
	t.Helper()
	r, e := reel.New(room)
	if e != api.OK || r == nil {
		t.Fatalf("New(%d): %v, %d", room, r, e)
	}
	return r
}

// must holds what an operation answered against what it should.
func must(t *testing.T, what string, got, want api.Errno) {
	t.Helper()
	if got != want {
		t.Errorf("%s: error %d, not %d", what, got, want)
	}
}

// has holds what tape n of r has against what it should.
func has(t *testing.T, r *reel.Reel, n int, want string) {
	t.Helper()
	if got, e := r.Read(n); got != want || e != api.OK {
		t.Errorf("tape %d: %q and error %d, not %q", n, got, e, want)
	}
}

func TestP3_1RoomIsUpToMaxReel(t *testing.T) {
	for _, room := range []int{0, 1, 2, 1000, api.MaxReel - 1, api.MaxReel} {
		r := made(t, room)
		has(t, r, 0, "")
		has(t, r, 1, "")
		if r.Free() != room || r.Dead() || r.Ops() != 0 {
			t.Errorf("New(%d): free %d, dead %v, operations %d", room, r.Free(), r.Dead(), r.Ops())
		}
	}
	for _, room := range []int{-1, -2, api.MaxReel + 1, 1 << 32, math.MaxInt, math.MinInt} {
		if r, e := reel.New(room); r != nil || e != api.ErrArg {
			t.Errorf("New(%d): %v, %d", room, r, e)
		}
	}
}

func TestP3_1NothingIsArmedAtFirst(t *testing.T) {
	r := made(t, 10)
	for range 1000 {
		must(t, "Sync", r.Sync(0), api.OK)
	}
}

func TestP3_1ReelsShareNothing(t *testing.T) {
	r, s := made(t, 4), made(t, 4)
	must(t, "Write", r.Write(0, "abcd"), api.OK)
	must(t, "Write to the other one", s.Write(0, "xy"), api.OK)
	s.Arm(0)
	must(t, "Sync of the other one", s.Sync(0), api.ErrDead)
	has(t, r, 0, "abcd")
	if r.Free() != 0 || r.Dead() || s.Free() != 2 || !s.Dead() {
		t.Error("one reel's room or power is another one's")
	}
}

func TestP3_2WriteStandsAtTheEnd(t *testing.T) {
	r := made(t, 600)
	must(t, "Write", r.Write(0, "ab"), api.OK)
	must(t, "Write", r.Write(1, "\x00\xff"), api.OK)
	must(t, "Write", r.Write(0, ""), api.OK)
	must(t, "Write", r.Write(0, "cd"), api.OK)
	has(t, r, 0, "abcd")
	has(t, r, 1, "\x00\xff")
	every := ""
	for c := range 256 {
		every += string([]byte{byte(c)})
	}
	must(t, "Write", r.Write(1, every), api.OK)
	has(t, r, 1, "\x00\xff"+every)
	has(t, r, 0, "abcd")
}

func TestP3_2WriteIsNotSafe(t *testing.T) {
	r := made(t, 10)
	must(t, "Write", r.Write(0, "ab"), api.OK)
	must(t, "Sync", r.Sync(0), api.OK)
	must(t, "Write", r.Write(0, "cd"), api.OK)
	r.Crash(api.Tail{})
	has(t, r, 0, "ab")
}

func TestP3_2SyncIsOfOneTape(t *testing.T) {
	for n := range api.Tapes {
		r := made(t, 10)
		must(t, "Write", r.Write(0, "ab"), api.OK)
		must(t, "Write", r.Write(1, "cd"), api.OK)
		must(t, "Sync", r.Sync(n), api.OK)
		r.Crash(api.Tail{})
		want := [api.Tapes]string{"ab", "cd"}
		want[1-n] = ""
		has(t, r, 0, want[0])
		has(t, r, 1, want[1])
	}
}

func TestP3_2WipeIsForGood(t *testing.T) {
	for n := range api.Tapes {
		r := made(t, 10)
		for m := range api.Tapes {
			must(t, "Write", r.Write(m, "abc"), api.OK)
			must(t, "Sync", r.Sync(m), api.OK)
			must(t, "Write", r.Write(m, "de"), api.OK)
		}
		must(t, "Wipe", r.Wipe(n), api.OK)
		has(t, r, n, "")
		has(t, r, 1-n, "abcde")
		if r.Free() != 5 {
			t.Errorf("free: %d", r.Free())
		}
		r.Crash(api.Tail{Keep: [api.Tapes]int{9, 9}})
		has(t, r, n, "")
		has(t, r, 1-n, "abcde")
		must(t, "Write", r.Write(n, "xy"), api.OK)
		has(t, r, n, "xy")
		r.Crash(api.Tail{})
		has(t, r, n, "")
	}
}

func TestP3_2TrimLeavesTheFirstBytes(t *testing.T) {
	for n := range 6 {
		r := made(t, 20)
		must(t, "Write", r.Write(0, "abc"), api.OK)
		must(t, "Sync", r.Sync(0), api.OK)
		must(t, "Write", r.Write(0, "de"), api.OK)
		must(t, "Write", r.Write(1, "xyz"), api.OK)
		must(t, "Trim", r.Trim(0, n), api.OK)
		has(t, r, 0, "abcde"[:n])
		has(t, r, 1, "xyz")
		if r.Free() != 17-n {
			t.Errorf("free behind Trim %d: %d", n, r.Free())
		}
		r.Crash(api.Tail{})
		has(t, r, 0, "abcde"[:min(n, 3)])
	}
}

func TestP3_2TrimLeavesNothingElseSafe(t *testing.T) {
	r := made(t, 20)
	must(t, "Write", r.Write(0, "abcd"), api.OK)
	must(t, "Sync", r.Sync(0), api.OK)
	must(t, "Trim", r.Trim(0, 2), api.OK)
	must(t, "Write", r.Write(0, "xyz"), api.OK)
	has(t, r, 0, "abxyz")
	r.Crash(api.Tail{Keep: [api.Tapes]int{1, 0}})
	has(t, r, 0, "abx")
}

func TestP3_2FullCountsBothTapes(t *testing.T) {
	r := made(t, 10)
	must(t, "Write of more than there is room for", r.Write(0, strings.Repeat("a", 11)), api.ErrFull)
	must(t, "Write", r.Write(0, "abcdef"), api.OK)
	must(t, "Write of a byte too many", r.Write(1, "12345"), api.ErrFull)
	must(t, "Write of a byte too many", r.Write(0, "12345"), api.ErrFull)
	has(t, r, 0, "abcdef")
	has(t, r, 1, "")
	must(t, "Write of what there is room for", r.Write(1, "1234"), api.OK)
	must(t, "Write of nothing to a full reel", r.Write(0, ""), api.OK)
	must(t, "Write to a full reel", r.Write(0, "x"), api.ErrFull)
	has(t, r, 0, "abcdef")
	has(t, r, 1, "1234")
	must(t, "Trim", r.Trim(0, 5), api.OK)
	must(t, "Write where a byte was trimmed", r.Write(1, "5"), api.OK)
	must(t, "Write to a full reel", r.Write(1, "6"), api.ErrFull)
	must(t, "Wipe", r.Wipe(1), api.OK)
	must(t, "Write where all was wiped", r.Write(0, "ghijk"), api.OK)
	has(t, r, 0, "abcdeghijk")
}

func TestP3_2RoomOfTheEdges(t *testing.T) {
	r := made(t, 0)
	must(t, "Write of nothing", r.Write(0, ""), api.OK)
	must(t, "Write", r.Write(1, "a"), api.ErrFull)
	must(t, "Sync", r.Sync(0), api.OK)
	must(t, "Wipe", r.Wipe(1), api.OK)
	must(t, "Trim", r.Trim(1, 0), api.OK)
	must(t, "Trim", r.Trim(1, 1), api.ErrArg)
	r = made(t, api.MaxReel)
	half := strings.Repeat("a", api.MaxReel/2)
	must(t, "Write", r.Write(0, half), api.OK)
	must(t, "Write", r.Write(1, half+"b"), api.ErrFull)
	must(t, "Write", r.Write(1, half), api.OK)
	must(t, "Write", r.Write(1, "b"), api.ErrFull)
	has(t, r, 0, half)
	has(t, r, 1, half)
}

func TestP3_2TapesThatAreNone(t *testing.T) {
	r := made(t, 10)
	must(t, "Write", r.Write(0, "ab"), api.OK)
	must(t, "Write", r.Write(1, "cd"), api.OK)
	for _, n := range noTapes() {
		must(t, "Write", r.Write(n, "x"), api.ErrArg)
		must(t, "Write of too much", r.Write(n, strings.Repeat("x", 20)), api.ErrArg)
		must(t, "Sync", r.Sync(n), api.ErrArg)
		must(t, "Wipe", r.Wipe(n), api.ErrArg)
		must(t, "Trim", r.Trim(n, 0), api.ErrArg)
		if s, e := r.Read(n); s != "" || e != api.ErrArg {
			t.Errorf("Read(%d): %q, %d", n, s, e)
		}
	}
	has(t, r, 0, "ab")
	has(t, r, 1, "cd")
	if r.Free() != 6 || r.Ops() != 2 {
		t.Errorf("free %d, operations %d", r.Free(), r.Ops())
	}
	r.Crash(api.Tail{})
	has(t, r, 0, "")
	has(t, r, 1, "")
}

func TestP3_2TrimsThatMayNotBe(t *testing.T) {
	r := made(t, 10)
	must(t, "Write", r.Write(0, "abc"), api.OK)
	for _, n := range []int{-1, -2, math.MinInt, 4, 5, 10, 1 << 32, 1<<32 + 1, math.MaxInt} {
		must(t, "Trim", r.Trim(0, n), api.ErrArg)
	}
	must(t, "Trim of an empty tape", r.Trim(1, 1), api.ErrArg)
	must(t, "Sync", r.Sync(0), api.OK)
	must(t, "Trim of a byte too many", r.Trim(0, 4), api.ErrArg)
	has(t, r, 0, "abc")
	if r.Ops() != 2 {
		t.Errorf("operations: %d", r.Ops())
	}
}

func TestP3_2NilIsNone(t *testing.T) {
	var r *reel.Reel
	for _, n := range append(noTapes(), 0, 1) {
		must(t, "Write", r.Write(n, "a"), api.ErrNone)
		must(t, "Sync", r.Sync(n), api.ErrNone)
		must(t, "Wipe", r.Wipe(n), api.ErrNone)
		must(t, "Trim", r.Trim(n, 0), api.ErrNone)
		must(t, "Trim", r.Trim(n, -1), api.ErrNone)
		must(t, "Trim", r.Trim(0, n), api.ErrNone)
		if s, e := r.Read(n); s != "" || e != api.ErrNone {
			t.Errorf("Read(%d) of nil: %q, %d", n, s, e)
		}
	}
}

func TestP3_3ReadIsWhatItWas(t *testing.T) {
	r := made(t, 10)
	must(t, "Write", r.Write(0, "abcd"), api.OK)
	was, e := r.Read(0)
	must(t, "Read", e, api.OK)
	must(t, "Wipe", r.Wipe(0), api.OK)
	must(t, "Write", r.Write(0, "wxyz"), api.OK)
	r.Crash(api.Tail{Keep: [api.Tapes]int{4, 0}, Turn: 255})
	if was != "abcd" {
		t.Errorf("what was read has become %q", was)
	}
	has(t, r, 0, "wxy\x85")
}

func TestP3_3ReadWithoutPower(t *testing.T) {
	r := made(t, 10)
	must(t, "Write", r.Write(0, "ab"), api.OK)
	r.Arm(0)
	has(t, r, 0, "ab")
	must(t, "Sync", r.Sync(0), api.ErrDead)
	for n := range api.Tapes {
		if s, e := r.Read(n); s != "" || e != api.ErrDead {
			t.Errorf("Read(%d): %q, %d", n, s, e)
		}
	}
	for _, n := range noTapes() {
		if s, e := r.Read(n); s != "" || e != api.ErrArg {
			t.Errorf("Read(%d): %q, %d", n, s, e)
		}
	}
}

func TestP3_3FreeIsWhatMayBeWritten(t *testing.T) {
	r := made(t, 10)
	for n, s := range []string{"abc", "de"} {
		must(t, "Write", r.Write(n, s), api.OK)
	}
	if r.Free() != 5 {
		t.Errorf("free: %d", r.Free())
	}
	must(t, "Sync", r.Sync(0), api.OK)
	r.Arm(0)
	must(t, "Write", r.Write(0, "x"), api.ErrDead)
	if r.Free() != 5 {
		t.Errorf("free without power: %d", r.Free())
	}
	r.Crash(api.Tail{Keep: [api.Tapes]int{0, 1}})
	if r.Free() != 6 {
		t.Errorf("free behind a crash: %d", r.Free())
	}
	must(t, "Write", r.Write(1, "123456"), api.OK)
	if r.Free() != 0 {
		t.Errorf("free of a full reel: %d", r.Free())
	}
}

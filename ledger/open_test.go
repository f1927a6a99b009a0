package ledger_test

import (
	"slices"
	"testing"

	"furlong/api"
	"furlong/ledger"
)

func TestP4_2NewLedger(t *testing.T) {
	r := made(t, room)
	counted(t, r, 2, func() { opened(t, r, 1, "") })
	kept(t, r, base(1, ""), "")
	counted(t, r, 0, func() { opened(t, r, 1, "") })
}

func TestP4_2TapesWithoutAnEpochAreWiped(t *testing.T) {
	for _, c := range []struct {
		tapes [api.Tapes]string
		ops   int
	}{
		{[api.Tapes]string{"", ""}, 2},
		{[api.Tapes]string{"junk", ""}, 3},
		{[api.Tapes]string{"", "junk"}, 3},
		{[api.Tapes]string{"junk", "junk"}, 4},
		{[api.Tapes]string{recs("a", "b"), base(0, "x")}, 4},
		{[api.Tapes]string{base(2, "x")[1:], ""}, 3},
		{[api.Tapes]string{base(0, ""), base(-1, "") + base(1, "x")}, 4},
	} {
		r := laid(t, c.tapes[:]...)
		counted(t, r, c.ops, func() { opened(t, r, 1, "") })
		kept(t, r, base(1, ""), "")
	}
}

func TestP4_2TheGreaterEpoch(t *testing.T) {
	long := recs("a", "b", "c")
	for _, c := range []struct {
		tapes, want [api.Tapes]string
		epoch       int64
		base        string
		records     []string
		ops         int
	}{
		{[api.Tapes]string{base(1, "x"), ""}, [api.Tapes]string{base(1, "x"), ""}, 1, "x", nil, 0},
		{[api.Tapes]string{"", base(1, "x") + recs("a")}, [api.Tapes]string{"", base(1, "x") + recs("a")}, 1, "x", []string{"a"}, 0},
		{[api.Tapes]string{base(1, "x") + long, base(2, "y")}, [api.Tapes]string{"", base(2, "y")}, 2, "y", nil, 1},
		{[api.Tapes]string{base(2, "x"), base(1, "y") + long}, [api.Tapes]string{base(2, "x"), ""}, 2, "x", nil, 1},
		{[api.Tapes]string{base(3, "x"), base(3, "y") + long}, [api.Tapes]string{base(3, "x"), ""}, 3, "x", nil, 1},
		{[api.Tapes]string{base(9, "x"), base(10, "y")}, [api.Tapes]string{"", base(10, "y")}, 10, "y", nil, 1},
		{[api.Tapes]string{base(1<<62, "x"), base(1<<62-1, "y")}, [api.Tapes]string{base(1<<62, "x"), ""}, 1 << 62, "x", nil, 1},
		{[api.Tapes]string{base(1<<62-1, "x"), base(1<<62, "y")}, [api.Tapes]string{"", base(1<<62, "y")}, 1 << 62, "y", nil, 1},
		{[api.Tapes]string{base(1<<62+1, "x"), base(1, "y")}, [api.Tapes]string{"", base(1, "y")}, 1, "y", nil, 1},
		{[api.Tapes]string{base(0, "x"), base(1, "y")}, [api.Tapes]string{"", base(1, "y")}, 1, "y", nil, 1},
		{[api.Tapes]string{base(1, "x") + recs("a"), "junk"}, [api.Tapes]string{base(1, "x") + recs("a"), ""}, 1, "x", []string{"a"}, 1},
		{[api.Tapes]string{"junk", base(1, "x") + recs("a")}, [api.Tapes]string{"", base(1, "x") + recs("a")}, 1, "x", []string{"a"}, 1},
		{[api.Tapes]string{base(1, "x") + "j", ""}, [api.Tapes]string{base(1, "x"), ""}, 1, "x", nil, 1},
		{[api.Tapes]string{base(2, "x") + "j", base(1, "y") + "j"}, [api.Tapes]string{base(2, "x"), ""}, 2, "x", nil, 2},
		{[api.Tapes]string{base(1, "x") + long, base(2, "y") + long + "junk"}, [api.Tapes]string{"", base(2, "y") + long}, 2, "y", []string{"a", "b", "c"}, 2},
	} {
		r := laid(t, c.tapes[:]...)
		counted(t, r, c.ops, func() { opened(t, r, c.epoch, c.base, c.records...) })
		kept(t, r, c.want[:]...)
		counted(t, r, 0, func() { opened(t, r, c.epoch, c.base, c.records...) })
	}
}

// What was found is gone on with: at its tape, with its numbers.
func TestP4_2GoesOnWhereItWas(t *testing.T) {
	for n := range api.Tapes {
		var tapes, want [api.Tapes]string
		tapes[n] = base(7, "x") + recs("a") + "torn"
		r := laid(t, tapes[:]...)
		l := opened(t, r, 7, "x", "a")
		must(t, "Add", l.Add("b"), api.OK)
		want[n] = base(7, "x") + recs("a", "b")
		kept(t, r, want[:]...)
		l = opened(t, r, 7, "x", "a", "b")
		must(t, "Base", l.Base("y"), api.OK)
		want[n], want[1-n] = "", base(8, "y")
		kept(t, r, want[:]...)
	}
}

// The first operations are done, and the rest not, where the power goes off.
func TestP4_2OrderOfOperations(t *testing.T) {
	for _, c := range []struct {
		tapes [api.Tapes]string
		steps [][api.Tapes]string // the tapes behind so many operations
	}{
		{[api.Tapes]string{"j", "k"}, [][api.Tapes]string{{"j", "k"}, {"", "k"}, {"", ""}, {base(1, ""), ""}}},
		{[api.Tapes]string{"", "k"}, [][api.Tapes]string{{"", "k"}, {"", ""}, {base(1, ""), ""}}},
		{[api.Tapes]string{base(2, "x") + "j", base(1, "y")}, [][api.Tapes]string{{base(2, "x") + "j", base(1, "y")}, {base(2, "x"), base(1, "y")}}},
		{[api.Tapes]string{base(1, "y"), base(2, "x") + "j"}, [][api.Tapes]string{{base(1, "y"), base(2, "x") + "j"}, {base(1, "y"), base(2, "x")}}},
	} {
		for n, want := range c.steps {
			r := laid(t, c.tapes[:]...)
			r.Arm(n)
			refused(t, r, api.ErrDead)
			r.Crash(api.Tail{Keep: [api.Tapes]int{room, room}})
			has(t, r, want[:]...)
		}
	}
}

func TestP4_2NewLedgerIsSynced(t *testing.T) {
	r := made(t, room)
	r.Arm(1)
	refused(t, r, api.ErrDead)
	r.Crash(api.Tail{})
	has(t, r, "", "")
	r.Arm(2)
	opened(t, r, 1, "")
	kept(t, r, base(1, ""), "")
}

func TestP4_2NilReel(t *testing.T) {
	refused(t, nil, api.ErrNone)
}

func TestP4_2ReelWithoutPower(t *testing.T) {
	for _, tapes := range [][]string{{"", ""}, {base(1, "x"), ""}, {"j", base(1, "x") + "j"}} {
		r := laid(t, tapes...)
		r.Arm(0)
		must(t, "Sync", r.Sync(0), api.ErrDead)
		counted(t, r, 0, func() { refused(t, r, api.ErrDead) })
		r.Crash(api.Tail{})
		has(t, r, tapes...)
	}
}

func TestP4_2ReelWithoutRoom(t *testing.T) {
	need := len(base(1, ""))
	for _, n := range []int{0, 1, need - 1} {
		r := made(t, n)
		counted(t, r, 0, func() { refused(t, r, api.ErrFull) })
		has(t, r, "", "")
	}
	r := made(t, need)
	opened(t, r, 1, "")
	kept(t, r, base(1, ""), "")
	// What stands in the way is wiped ahead.
	r = made(t, need)
	must(t, "Write", r.Write(0, "junk"), api.OK)
	must(t, "Write", r.Write(1, "junk"), api.OK)
	opened(t, r, 1, "")
	kept(t, r, base(1, ""), "")
	r = made(t, need-1)
	must(t, "Write", r.Write(1, "junk"), api.OK)
	refused(t, r, api.ErrFull)
	has(t, r, "", "")
}

// A ledger that fills its reel is opened without any room.
func TestP4_2FullReel(t *testing.T) {
	r := made(t, len(base(4, "x")+recs("a")))
	must(t, "Write", r.Write(1, base(4, "x")+recs("a")), api.OK)
	opened(t, r, 4, "x", "a")
}

// What was not safe is not made so: Open has only that done which is told.
func TestP4_2OpenMakesNothingSafe(t *testing.T) {
	r := laid(t, base(2, "x"))
	must(t, "Write", r.Write(0, recs("a")+"torn"), api.OK)
	opened(t, r, 2, "x", "a")
	r.Crash(api.Tail{Keep: [api.Tapes]int{3, 0}})
	has(t, r, base(2, "x")+recs("a")[:3])
	opened(t, r, 2, "x")
}

func TestP4_2ListsAreNewEachTime(t *testing.T) {
	r := laid(t, base(2, "x")+recs("a", "b", "c"))
	l, _, first, _ := ledger.Open(r)
	_, _, second, _ := ledger.Open(r)
	first[0] = "spoilt"
	_ = append(first, "spoilt")
	_ = append(second, "z")
	if !slices.Equal(second, []string{"a", "b", "c"}) {
		t.Error(second)
	}
	must(t, "Add", l.Add("d"), api.OK)
	opened(t, r, 2, "x", "a", "b", "c", "d")
}

// Two reels, and two ledgers, have nothing to do with each other.
func TestP4_2LedgersShareNothing(t *testing.T) {
	r, q := made(t, room), made(t, room)
	l, k := opened(t, r, 1, ""), opened(t, q, 1, "")
	must(t, "Add", l.Add("a"), api.OK)
	must(t, "Base", k.Base("x"), api.OK)
	q.Arm(0)
	must(t, "Add", k.Add("b"), api.ErrDead)
	stands(t, l, 1, 1, false)
	stands(t, k, 2, 0, true)
	must(t, "Add", l.Add("b"), api.OK)
	has(t, r, base(1, "")+recs("a", "b"), "")
}

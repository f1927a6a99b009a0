package ledger_test

import (
	"strings"
	"testing"

	"furlong/api"
	"furlong/ledger"
)

func TestP4_3AddStandsBehindAndIsSafe(t *testing.T) {
	r := made(t, room)
	l := opened(t, r, 1, "")
	var list []string
	for i, s := range texts() {
		counted(t, r, 2, func() { must(t, "Add", l.Add(s), api.OK) })
		list = append(list, s)
		stands(t, l, 1, i+1, false)
		kept(t, r, base(1, "")+recs(list...), "")
	}
	opened(t, r, 1, "", list...)
}

func TestP4_3AddOnTheOtherTape(t *testing.T) {
	r := laid(t, "", base(6, "x")+recs("a"))
	l := opened(t, r, 6, "x", "a")
	must(t, "Add", l.Add("b"), api.OK)
	kept(t, r, "", base(6, "x")+recs("a", "b"))
}

func TestP4_3AddAtTheMostBytes(t *testing.T) {
	long := strings.Repeat("\xff", most)
	r := made(t, api.MaxReel)
	l := opened(t, r, 1, "")
	for _, s := range []string{long + "x", long + long, strings.Repeat("x", api.MaxReel+1)} {
		counted(t, r, 0, func() { must(t, "Add of too much", l.Add(s), api.ErrLong) })
		stands(t, l, 1, 0, false)
	}
	has(t, r, base(1, ""), "")
	must(t, "Add", l.Add(long), api.OK)
	must(t, "Add of too much", l.Add(long+"x"), api.ErrLong)
	must(t, "Add", l.Add("b"), api.OK)
	stands(t, l, 1, 2, false)
	opened(t, r, 1, "", long, "b")
}

func TestP4_3AddWithoutRoom(t *testing.T) {
	r := made(t, len(base(1, "")+recs("aa", "b")))
	l := opened(t, r, 1, "")
	must(t, "Add", l.Add("aa"), api.OK)
	for range 3 {
		counted(t, r, 0, func() { must(t, "Add of a byte too many", l.Add("bc"), api.ErrFull) })
		stands(t, l, 1, 1, false)
		has(t, r, base(1, "")+recs("aa"), "")
	}
	must(t, "Add of too much", l.Add(strings.Repeat("x", most)), api.ErrFull)
	must(t, "Add of far too much", l.Add(strings.Repeat("x", most+1)), api.ErrLong)
	must(t, "Add of what there is room for", l.Add("b"), api.OK)
	stands(t, l, 1, 2, false)
	kept(t, r, base(1, "")+recs("aa", "b"), "")
	must(t, "Add to a full reel", l.Add(""), api.ErrFull)
	stands(t, l, 1, 2, false)
	opened(t, r, 1, "", "aa", "b")
}

func TestP4_4BaseOnTheOtherTape(t *testing.T) {
	r := made(t, room)
	l := opened(t, r, 1, "")
	for i, s := range texts() {
		epoch := int64(i) + 2
		must(t, "Add", l.Add("a"), api.OK)
		must(t, "Add", l.Add("b"), api.OK)
		counted(t, r, 3, func() { must(t, "Base", l.Base(s), api.OK) })
		stands(t, l, epoch, 0, false)
		var want [api.Tapes]string
		want[(i+1)%2] = base(epoch, s)
		kept(t, r, want[:]...)
		opened(t, r, epoch, s)
	}
}

func TestP4_4RecordsBehindABaseAreCountedAnew(t *testing.T) {
	r := made(t, room)
	l := opened(t, r, 1, "")
	must(t, "Add", l.Add("a"), api.OK)
	must(t, "Base", l.Base("x"), api.OK)
	must(t, "Add", l.Add("b"), api.OK)
	must(t, "Add", l.Add("c"), api.OK)
	stands(t, l, 2, 2, false)
	kept(t, r, "", base(2, "x")+recs("b", "c"))
}

func TestP4_4BaseAtTheMostBytes(t *testing.T) {
	long := strings.Repeat("\xff", most)
	r := made(t, api.MaxReel)
	l := opened(t, r, 1, "")
	must(t, "Add", l.Add("a"), api.OK)
	for _, s := range []string{long + "x", long + long, strings.Repeat("x", api.MaxReel+1)} {
		counted(t, r, 0, func() { must(t, "Base of too much", l.Base(s), api.ErrLong) })
		stands(t, l, 1, 1, false)
	}
	has(t, r, base(1, "")+recs("a"), "")
	must(t, "Base", l.Base(long), api.OK)
	must(t, "Base of too much", l.Base(long+"x"), api.ErrLong)
	must(t, "Add", l.Add(long), api.OK)
	stands(t, l, 2, 1, false)
	opened(t, r, 2, long, long)
}

// Both bases stand on the reel for a while: there must be room for both.
func TestP4_4BaseWithoutRoom(t *testing.T) {
	r := made(t, len(base(1, "")+recs("a")+base(2, "xx")))
	l := opened(t, r, 1, "")
	must(t, "Add", l.Add("a"), api.OK)
	for range 3 {
		counted(t, r, 0, func() { must(t, "Base of a byte too many", l.Base("xxx"), api.ErrFull) })
		stands(t, l, 1, 1, false)
		has(t, r, base(1, "")+recs("a"), "")
	}
	must(t, "Base of far too much", l.Base(strings.Repeat("x", most+1)), api.ErrLong)
	opened(t, r, 1, "", "a")
	must(t, "Base of what there is room for", l.Base("xx"), api.OK)
	stands(t, l, 2, 0, false)
	kept(t, r, "", base(2, "xx"))
	must(t, "Add", l.Add("b"), api.OK)
	must(t, "Base without room", l.Base("xxx"+recs("b")), api.ErrFull)
	opened(t, r, 2, "xx", "b")
}

// The chapter tells nothing of an epoch behind the last one: the base comes on
// its tape, and that has no epoch for Open then.
func TestP4_4BehindTheLastEpoch(t *testing.T) {
	r := laid(t, base(1<<62-1, "x")+recs("a"))
	l := opened(t, r, 1<<62-1, "x", "a")
	must(t, "Base", l.Base("y"), api.OK)
	stands(t, l, 1<<62, 0, false)
	l = opened(t, r, 1<<62, "y")
	must(t, "Base", l.Base("z"), api.OK)
	stands(t, l, 1<<62+1, 0, false)
	kept(t, r, base(1<<62+1, "z"), "")
}

// call is one that writes, with how many operations it has.
type call struct {
	name string
	ops  int
	do   func(l *ledger.Ledger, s string) api.Errno
}

func calls() []call {
	return []call{{"Add", 2, (*ledger.Ledger).Add}, {"Base", 3, (*ledger.Ledger).Base}}
}

func TestP4_5BrokenByAnyOperation(t *testing.T) {
	for _, c := range calls() {
		for n := range c.ops {
			r := laid(t, base(4, "x")+recs("a", "b"))
			l := opened(t, r, 4, "x", "a", "b")
			r.Arm(n)
			counted(t, r, n, func() { must(t, c.name, c.do(l, "y"), api.ErrDead) })
			stands(t, l, 4, 2, true)
			// Also when there is power again, whatever it is given.
			for range 2 {
				counted(t, r, 0, func() {
					for _, s := range []string{"", "z", strings.Repeat("z", most), strings.Repeat("z", most+1)} {
						must(t, "Add of a broken one", l.Add(s), api.ErrLedger)
						must(t, "Base of a broken one", l.Base(s), api.ErrLedger)
					}
				})
				stands(t, l, 4, 2, true)
				r.Crash(api.Tail{})
			}
		}
		r := laid(t, base(4, "x")+recs("a", "b"))
		l := opened(t, r, 4, "x", "a", "b")
		r.Arm(c.ops)
		must(t, c.name, c.do(l, "y"), api.OK)
		if l.Broken() {
			t.Errorf("%s: broken, though there was power enough", c.name)
		}
	}
}

func TestP4_5WithoutPowerFromElsewhere(t *testing.T) {
	for _, c := range calls() {
		r := made(t, room)
		l := opened(t, r, 1, "")
		r.Arm(0)
		must(t, "Sync", r.Sync(0), api.ErrDead)
		stands(t, l, 1, 0, false)
		must(t, c.name+" of too much", c.do(l, strings.Repeat("x", most+1)), api.ErrLong)
		stands(t, l, 1, 0, false)
		must(t, c.name, c.do(l, "x"), api.ErrDead)
		stands(t, l, 1, 0, true)
	}
}

// A reel that is full, and whose power then fails, breaks it only then.
func TestP4_5FullDoesNotBreak(t *testing.T) {
	for _, c := range calls() {
		r := made(t, len(base(1, "")))
		l := opened(t, r, 1, "")
		for range 3 {
			must(t, c.name, c.do(l, "x"), api.ErrFull)
			stands(t, l, 1, 0, false)
		}
		r.Arm(1)
		must(t, c.name, c.do(l, "x"), api.ErrFull)
		stands(t, l, 1, 0, false)
		must(t, c.name, c.do(l, "x"), api.ErrDead)
		stands(t, l, 1, 0, true)
		r.Crash(api.Tail{})
		opened(t, r, 1, "")
	}
}

func TestP4_5Nil(t *testing.T) {
	var l *ledger.Ledger
	for _, c := range calls() {
		for _, s := range []string{"", "x", strings.Repeat("x", most+1)} {
			must(t, c.name+" of nil", c.do(l, s), api.ErrNone)
		}
	}
	stands(t, l, 0, 0, false)
}

func TestExample1(t *testing.T) {
	r := made(t, room)
	l := opened(t, r, 1, "")
	must(t, "Add", l.Add("a"), api.OK)
	r.Crash(api.Tail{})
	l = opened(t, r, 1, "", "a")
	must(t, "Base", l.Base("x"), api.OK)
	must(t, "Add", l.Add("b"), api.OK)
	opened(t, r, 2, "x", "b")
}

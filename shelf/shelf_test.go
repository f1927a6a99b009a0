package shelf_test

import (
	"math/rand/v2"
	"slices"
	"strings"
	"testing"

	"furlong/api"
	"furlong/reel"
	"furlong/shelf"
)

func TestP5_3CommitIsDoneAndSafe(t *testing.T) {
	r := made(t, room)
	s := opened(t, r, world{}, 0)
	w := world{}
	var records []string
	for i, l := range [][]api.Change{
		{put("b", "1")},
		{put("a", "2"), put("c", "3")},
		{put("b", "4")},
		{gone("a"), put("d", "")},
		{gone("a")},
		{put("b", "4")},
		{put("e", "1"), put("e", "2"), gone("e"), put("e", "3"), gone("c")},
		{put("f", "1"), gone("f")},
	} {
		counted(t, r, 2, func() { must(t, "Commit", s.Commit(l...), api.OK) })
		w = w.after(l...)
		records = append(records, text(l...))
		has(t, s, w, i+1)
		kept(t, r, "", records...)
	}
	opened(t, r, world{"b": "4", "d": "", "e": "3"}, 8)
}

func TestP5_3CommitOfNothing(t *testing.T) {
	r := made(t, room)
	s := opened(t, r, world{}, 0)
	must(t, "Commit", s.Commit(put("a", "1")), api.OK)
	nothing := func() {
		t.Helper()
		counted(t, r, 0, func() {
			must(t, "Commit of nothing", s.Commit(), api.OK)
			must(t, "Commit of nothing", s.Commit([]api.Change{}...), api.OK)
			must(t, "Commit of nothing", s.Commit(nil...), api.OK)
		})
	}
	nothing()
	has(t, s, world{"a": "1"}, 1)
	kept(t, r, "", text(put("a", "1")))
	// Nothing is asked of the ledger, so there is none of its errors.
	r.Arm(0)
	nothing()
	stands(t, s, world{"a": "1"}, 1, false)
	must(t, "Commit", s.Commit(put("a", "2")), api.ErrDead)
	nothing()
	stands(t, s, world{"a": "1"}, 1, true)
	r.Crash(api.Tail{})
	nothing()
	full := made(t, 200)
	s = opened(t, full, world{}, 0)
	must(t, "Write", full.Write(1, strings.Repeat("x", full.Free())), api.OK)
	nothing()
}

// A change that may not be keeps all others from being done, wherever it
// stands.
func TestP5_3AllOrNothing(t *testing.T) {
	for _, c := range trials() {
		if c.ok {
			continue
		}
		for n := range 3 {
			r := made(t, room)
			s := opened(t, r, world{}, 0)
			must(t, "Commit", s.Commit(put("b", "1")), api.OK)
			l := slices.Insert([]api.Change{put("x", "1"), gone("b")}, n, c.c)
			counted(t, r, 0, func() { must(t, "Commit", s.Commit(l...), api.ErrArg) })
			has(t, s, world{"b": "1"}, 1)
			kept(t, r, "", text(put("b", "1")))
		}
	}
}

func TestP5_3MostChanges(t *testing.T) {
	l := many(api.MaxStrands, 4, "v")
	r := made(t, room)
	s := opened(t, r, world{}, 0)
	must(t, "Commit", s.Commit(put("a", "1")), api.OK)
	over := append(slices.Clone(l), put("z", ""))
	counted(t, r, 0, func() { must(t, "Commit of one too many", s.Commit(over...), api.ErrLong) })
	counted(t, r, 0, func() { must(t, "Commit of far too many", s.Commit(many(20000, 5, "")...), api.ErrLong) })
	has(t, s, world{"a": "1"}, 1)
	must(t, "Commit", s.Commit(l...), api.OK)
	w := world{"a": "1"}.after(l...)
	has(t, s, w, 2)
	kept(t, r, "", text(put("a", "1")), text(l...))
	opened(t, r, w, 2)
}

// It is the changes that are counted, not their keys.
func TestP5_3MostChangesOfOneKey(t *testing.T) {
	l := slices.Repeat([]api.Change{put("a", "1"), gone("a")}, api.MaxStrands/2)
	r := made(t, room)
	s := opened(t, r, world{}, 0)
	must(t, "Commit", s.Commit(l...), api.OK)
	must(t, "Commit of one too many", s.Commit(append(l, put("a", "2"))...), api.ErrLong)
	has(t, s, world{}, 1)
	opened(t, r, world{}, 1)
}

func TestP5_3LongestText(t *testing.T) {
	r := made(t, api.MaxReel)
	s := opened(t, r, world{}, 0)
	over := sized(t, most+1)
	counted(t, r, 0, func() { must(t, "Commit of a byte too many", s.Commit(over...), api.ErrLong) })
	has(t, s, world{}, 0)
	thing := strings.Repeat("x", api.MaxThing)
	for _, n := range []int{2, 3, 4, 5, 9, api.MaxStrands} {
		far := many(n, 4, thing)
		counted(t, r, 0, func() { must(t, "Commit of far too much", s.Commit(far...), api.ErrLong) })
		has(t, s, world{}, 0)
	}
	l := sized(t, most)
	must(t, "Commit", s.Commit(l...), api.OK)
	has(t, s, world{}.after(l...), 1)
	kept(t, r, "", text(l...))
	opened(t, r, world{}.after(l...), 1)
}

func TestP5_3OrderOfErrors(t *testing.T) {
	r := made(t, room)
	s := opened(t, r, world{}, 0)
	bad := put("", "x")
	tooMany := many(api.MaxStrands+1, 4, "")
	tooMuch := sized(t, most+1)
	errors := func() {
		t.Helper()
		must(t, "Commit of too many, one of which may not be", s.Commit(append(tooMany, bad)...), api.ErrArg)
		must(t, "Commit of too much, one of which may not be", s.Commit(append(tooMuch, bad)...), api.ErrArg)
		must(t, "Commit of what may not be", s.Commit(bad), api.ErrArg)
	}
	errors()
	r.Arm(0)
	errors()
	must(t, "Commit of too much", s.Commit(tooMuch...), api.ErrLong)
	must(t, "Commit of too many", s.Commit(tooMany...), api.ErrLong)
	stands(t, s, world{}, 0, false)
	must(t, "Commit", s.Commit(put("a", "1")), api.ErrDead)
	stands(t, s, world{}, 0, true)
	errors()
	// Ahead of all else the ledger is broken; too many changes do not come to it.
	must(t, "Commit of too much", s.Commit(tooMuch...), api.ErrLedger)
	must(t, "Commit of too many", s.Commit(tooMany...), api.ErrLong)
}

func TestP5_3WithoutRoom(t *testing.T) {
	r := made(t, 200)
	s := opened(t, r, world{}, 0)
	must(t, "Commit", s.Commit(put("a", "1")), api.OK)
	big := put("b", strings.Repeat("x", 150))
	for range 3 {
		counted(t, r, 0, func() { must(t, "Commit without room", s.Commit(big, gone("a")), api.ErrFull) })
		has(t, s, world{"a": "1"}, 1)
		kept(t, r, "", text(put("a", "1")))
	}
	must(t, "Commit of what there is room for", s.Commit(put("b", "2")), api.OK)
	has(t, s, world{"a": "1", "b": "2"}, 2)
	opened(t, r, world{"a": "1", "b": "2"}, 2)
}

func TestP5_3WithoutPower(t *testing.T) {
	for n := range 2 {
		r := made(t, room)
		s := opened(t, r, world{}, 0)
		must(t, "Commit", s.Commit(put("a", "1"), put("b", "2")), api.OK)
		r.Arm(n)
		must(t, "Commit", s.Commit(put("a", "3"), gone("b"), put("c", "4")), api.ErrDead)
		for range 2 {
			stands(t, s, world{"a": "1", "b": "2"}, 1, true)
			counted(t, r, 0, func() {
				must(t, "Commit of a broken one", s.Commit(put("d", "5")), api.ErrLedger)
				must(t, "Pack of a broken one", s.Pack(), api.ErrLedger)
			})
			r.Crash(api.Tail{})
		}
		opened(t, r, world{"a": "1", "b": "2"}, 1)
	}
}

func TestP5_3ListIsNotChangedAndNotKept(t *testing.T) {
	r := made(t, room)
	s := opened(t, r, world{}, 0)
	l := []api.Change{put("c", "3"), put("a", "1"), put("b", "2"), put("spare", "x"), put("spare", "y")}
	was := slices.Clone(l)
	must(t, "Commit", s.Commit(l[:3]...), api.OK)
	if !slices.Equal(l, was) {
		t.Errorf("the list is changed: %v", l)
	}
	for i := range l {
		l[i] = put("z", "9")
	}
	has(t, s, world{"a": "1", "b": "2", "c": "3"}, 1)
	must(t, "Pack", s.Pack(), api.OK)
	kept(t, r, text(put("a", "1"), put("b", "2"), put("c", "3")))
}

func TestP5_4PackIsTheNewBase(t *testing.T) {
	r := made(t, room)
	s := opened(t, r, world{}, 0)
	must(t, "Commit", s.Commit(put("c", "1"), put("a", "2")), api.OK)
	must(t, "Commit", s.Commit(put("b", "3"), gone("c")), api.OK)
	counted(t, r, 3, func() { must(t, "Pack", s.Pack(), api.OK) })
	kept(t, r, text(put("a", "2"), put("b", "3")))
	must(t, "Commit", s.Commit(put("d", "4")), api.OK)
	kept(t, r, text(put("a", "2"), put("b", "3")), text(put("d", "4")))
	must(t, "Pack", s.Pack(), api.OK)
	kept(t, r, text(put("a", "2"), put("b", "3"), put("d", "4")))
	// Also where nothing has come behind the last one.
	counted(t, r, 3, func() { must(t, "Pack", s.Pack(), api.OK) })
	kept(t, r, text(put("a", "2"), put("b", "3"), put("d", "4")))
}

func TestP5_4PackOfNothing(t *testing.T) {
	r := made(t, room)
	s := opened(t, r, world{}, 0)
	counted(t, r, 3, func() { must(t, "Pack", s.Pack(), api.OK) })
	kept(t, r, "")
	must(t, "Commit", s.Commit(put("a", "1")), api.OK)
	must(t, "Commit", s.Commit(gone("a")), api.OK)
	must(t, "Pack", s.Pack(), api.OK)
	has(t, s, world{}, 0)
	kept(t, r, "")
	opened(t, r, world{}, 0)
}

func TestP5_4MostKeys(t *testing.T) {
	r := made(t, room)
	s := opened(t, r, world{}, 0)
	l := many(api.MaxStrands, 4, "")
	w := world{"a": "1"}.after(l...)
	must(t, "Commit", s.Commit(l...), api.OK)
	must(t, "Commit", s.Commit(put("a", "1")), api.OK)
	for range 2 {
		counted(t, r, 0, func() { must(t, "Pack of a key too many", s.Pack(), api.ErrLong) })
		has(t, s, w, 2)
		kept(t, r, "", text(l...), text(put("a", "1")))
		s = opened(t, r, w, 2)
	}
	must(t, "Commit", s.Commit(gone("0000")), api.OK)
	w = w.after(gone("0000"))
	must(t, "Pack", s.Pack(), api.OK)
	has(t, s, w, 0)
	kept(t, r, w.packed())
	opened(t, r, w, 0)
}

func TestP5_4LongestText(t *testing.T) {
	for _, over := range []int{0, 1, 2} {
		r := made(t, api.MaxReel)
		s := opened(t, r, world{}, 0)
		l := sized(t, most+over)
		for _, c := range l {
			must(t, "Commit", s.Commit(c), api.OK)
		}
		if over == 0 {
			must(t, "Pack", s.Pack(), api.OK)
			has(t, s, world{}.after(l...), 0)
			opened(t, r, world{}.after(l...), 0)
			continue
		}
		counted(t, r, 0, func() { must(t, "Pack of too much", s.Pack(), api.ErrLong) })
		has(t, s, world{}.after(l...), 2)
		opened(t, r, world{}.after(l...), 2)
	}
}

// The old base and the new one stand on the reel for a while.
func TestP5_4WithoutRoom(t *testing.T) {
	r := made(t, 220)
	s := opened(t, r, world{}, 0)
	must(t, "Commit", s.Commit(put("a", strings.Repeat("x", 70))), api.OK)
	for range 3 {
		counted(t, r, 0, func() { must(t, "Pack without room", s.Pack(), api.ErrFull) })
		has(t, s, world{"a": strings.Repeat("x", 70)}, 1)
		kept(t, r, "", text(put("a", strings.Repeat("x", 70))))
	}
	must(t, "Commit", s.Commit(gone("a")), api.OK)
	must(t, "Pack", s.Pack(), api.OK)
	has(t, s, world{}, 0)
	kept(t, r, "")
}

func TestP5_4WithoutPower(t *testing.T) {
	for n := range 3 {
		r := made(t, room)
		s := opened(t, r, world{}, 0)
		must(t, "Commit", s.Commit(put("a", "1")), api.OK)
		r.Arm(n)
		must(t, "Pack", s.Pack(), api.ErrDead)
		for range 2 {
			stands(t, s, world{"a": "1"}, 1, true)
			must(t, "Pack of a broken one", s.Pack(), api.ErrLedger)
			must(t, "Commit to a broken one", s.Commit(put("a", "2")), api.ErrLedger)
			r.Crash(api.Tail{})
		}
		opened(t, r, world{"a": "1"}, []int{1, 1, 0}[n])
	}
}

func TestP5_5Get(t *testing.T) {
	s := opened(t, laid(t, text(put("a", "1"), put("b", ""), put("\x00", "2"))), world{"a": "1", "b": "", "\x00": "2"}, 0)
	for _, c := range []struct {
		key, value string
		ok         bool
	}{
		{"a", "1", true}, {"b", "", true}, {"\x00", "2", true},
		{"", "", false}, {"c", "", false}, {"A", "", false}, {"aa", "", false}, {"a\x00", "", false}, {"\x00\x00", "", false}, {strings.Repeat("a", api.MaxName+1), "", false}, {strings.Repeat("a", room), "", false},
	} {
		if v, ok := s.Get(c.key); v != c.value || ok != c.ok {
			t.Errorf("Get(%.20q): %q, %v", c.key, v, ok)
		}
	}
	must(t, "Commit", s.Commit(gone("a"), put("b", "3")), api.OK)
	if v, ok := s.Get("a"); v != "" || ok {
		t.Errorf("Get of what is gone: %q, %v", v, ok)
	}
	if v, ok := s.Get("b"); v != "3" || !ok {
		t.Errorf("Get: %q, %v", v, ok)
	}
}

// keys are the keys of a list, as one text.
func keys(l []api.Pair) string {
	var names []string
	for _, p := range l {
		names = append(names, p.Key)
	}
	return strings.Join(names, " ")
}

func TestP5_5Scan(t *testing.T) {
	s := opened(t, made(t, room), world{}, 0)
	if l := s.Scan("", ""); len(l) != 0 {
		t.Errorf("Scan of nothing: %v", l)
	}
	must(t, "Commit", s.Commit(put("c", "3"), put("ab", "2"), put("\xff", "5"), put("a", "1"), put("cc", "4"), put("B", "0")), api.OK)
	for _, c := range []struct{ from, to, want string }{
		{"", "", "B a ab c cc \xff"},
		{"", "\xff\xff", "B a ab c cc \xff"},
		{"", "\xff", "B a ab c cc"},
		{"\xff", "", "\xff"},
		{"\xff\x00", "", ""},
		{"a", "", "a ab c cc \xff"},
		{"a\x00", "", "ab c cc \xff"},
		{"a", "c", "a ab"},
		{"a", "c\x00", "a ab c"},
		{"a", "cc", "a ab c"},
		{"", "a", "B"},
		{"", "\x00", ""},
		{"A", "C", "B"},
		{"b", "c", ""},
		{"a", "a", ""},
		{"c", "a", ""},
		{"cc", "c", ""},
		{"\xff", "a", ""},
		{"\xff", "\x00", ""},
		{"x", "", "\xff"},
		{strings.Repeat("a", room), "", "ab c cc \xff"},
		{"", strings.Repeat("c", room), "B a ab c cc"},
	} {
		if got := keys(s.Scan(c.from, c.to)); got != c.want {
			t.Errorf("Scan(%.20q, %.20q): %q, not %q", c.from, c.to, got, c.want)
		}
	}
	if got := s.Scan("ab", "cc"); !slices.Equal(got, []api.Pair{{Key: "ab", Value: "2"}, {Key: "c", Value: "3"}}) {
		t.Errorf("Scan: %v", got)
	}
}

func TestP5_5ScanIsNewEachTime(t *testing.T) {
	s := opened(t, made(t, room), world{}, 0)
	w := world{}.after(many(5, 1, "v")...)
	must(t, "Commit", s.Commit(many(5, 1, "v")...), api.OK)
	first, second := s.Scan("", ""), s.Scan("", "")
	for i := range first {
		first[i] = api.Pair{Key: "x", Value: "y"}
	}
	_ = append(first[:2], api.Pair{Key: "z"})
	if !slices.Equal(second, w.pairs()) {
		t.Errorf("Scan: %v", second)
	}
	has(t, s, w, 1)
}

func TestP5_5LenAndRecords(t *testing.T) {
	r := made(t, room)
	s := opened(t, r, world{}, 0)
	for i, c := range []struct {
		c    api.Change
		want int
	}{{put("a", "1"), 1}, {put("a", "2"), 1}, {put("b", ""), 2}, {gone("c"), 2}, {gone("a"), 1}, {gone("a"), 1}, {gone("b"), 0}, {put("a", ""), 1}} {
		must(t, "Commit", s.Commit(c.c), api.OK)
		if s.Len() != c.want || s.Records() != i+1 || s.Broken() {
			t.Errorf("Len %d, Records %d, Broken %v behind change %d", s.Len(), s.Records(), s.Broken(), i)
		}
	}
}

func TestP5_5Nil(t *testing.T) {
	var s *shelf.Shelf
	must(t, "Commit", s.Commit(), api.ErrNone)
	must(t, "Commit", s.Commit(put("a", "1")), api.ErrNone)
	must(t, "Commit", s.Commit(put("", "1")), api.ErrNone)
	must(t, "Commit", s.Commit(many(api.MaxStrands+1, 4, "")...), api.ErrNone)
	must(t, "Pack", s.Pack(), api.ErrNone)
	for _, k := range []string{"", "a"} {
		if v, ok := s.Get(k); v != "" || ok {
			t.Errorf("Get: %q, %v", v, ok)
		}
		if l := s.Scan(k, ""); len(l) != 0 {
			t.Errorf("Scan: %v", l)
		}
	}
	stands(t, s, world{}, 0, false)
}

func TestP5_7PackChangesNothing(t *testing.T) {
	for seed := range uint64(300) {
		rnd := rand.New(rand.NewPCG(seed, 7))
		r := made(t, room)
		s := opened(t, r, world{}, 0)
		w := world{}
		for range rnd.IntN(20) {
			l := anyChanges(rnd)
			must(t, "Commit", s.Commit(l...), api.OK)
			w = w.after(l...)
		}
		must(t, "Pack", s.Pack(), api.OK)
		has(t, s, w, 0)
		kept(t, r, w.packed())
		opened(t, r, w, 0)
		// And it goes on as if nothing had been.
		l := anyChanges(rnd)
		must(t, "Commit", s.Commit(append(l, put("z", "1"))...), api.OK)
		has(t, s, w.after(append(l, put("z", "1"))...), 1)
		if t.Failed() {
			t.Fatalf("seed %d", seed)
		}
	}
}

// anyChanges are a few of few keys.
func anyChanges(rnd *rand.Rand) []api.Change {
	var l []api.Change
	for range rnd.IntN(5) {
		key := []string{"a", "b", "ab", "\xff", "0:,", "\x00"}[rnd.IntN(6)]
		if rnd.IntN(3) == 0 {
			l = append(l, gone(key))
		} else {
			l = append(l, put(key, strings.Repeat("v", rnd.IntN(4))))
		}
	}
	return l
}

// ask holds a scan from anywhere to anywhere against the world.
func ask(t *testing.T, rnd *rand.Rand, s *shelf.Shelf, w world) {
	t.Helper()
	ends := []string{"", "", "\x00", "0", "1", "a", "a\x00", "ab", "b", "c", "\xff", "\xff\x00"}
	from, to := ends[rnd.IntN(len(ends))], ends[rnd.IntN(len(ends))]
	var want []api.Pair
	for _, p := range w.pairs() {
		if p.Key >= from && (p.Key < to || to == "") {
			want = append(want, p)
		}
	}
	if got := s.Scan(from, to); !slices.Equal(got, want) {
		t.Errorf("Scan(%q, %q): %q, not %q", from, to, got, want)
	}
}

func TestP5_5AsOneMap(t *testing.T) {
	for seed := range uint64(300) {
		rnd := rand.New(rand.NewPCG(seed, 5))
		r := made(t, room)
		s := opened(t, r, world{}, 0)
		w, records := world{}, 0
		for range 40 {
			switch rnd.IntN(10) {
			case 0:
				must(t, "Pack", s.Pack(), api.OK)
				records = 0
			case 1:
				s = opened(t, r, w, records)
			case 2:
				must(t, "Commit", s.Commit(append(anyChanges(rnd), put("", ""))...), api.ErrArg)
			default:
				l := anyChanges(rnd)
				must(t, "Commit", s.Commit(l...), api.OK)
				w = w.after(l...)
				records += min(len(l), 1)
			}
			has(t, s, w, records)
			ask(t, rnd, s, w)
		}
		if t.Failed() {
			t.Fatalf("seed %d", seed)
		}
	}
}

func TestExample1(t *testing.T) {
	r, e := reel.New(room)
	must(t, "New", e, api.OK)
	s := opened(t, r, world{}, 0)
	must(t, "Commit", s.Commit(put("a", "1"), put("b", "2")), api.OK)
	must(t, "Commit", s.Commit(gone("a")), api.OK)
	for range 2 {
		if l := s.Scan("", ""); !slices.Equal(l, []api.Pair{{Key: "b", Value: "2"}}) {
			t.Errorf("Scan: %v", l)
		}
		r.Crash(api.Tail{})
		s = opened(t, r, world{"b": "2"}, 2)
	}
}

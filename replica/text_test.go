package replica_test

import (
	"math"
	"strconv"
	"strings"
	"testing"

	"furlong/api"
	"furlong/deed"
	"furlong/replica"
	"furlong/roll"
)

// strand is a text's strand.
func strand(s string) string {
	return strconv.Itoa(len(s)) + ":" + s + ","
}

// text is the strands of l, one behind the other.
func text(l ...string) string {
	s := ""
	for _, part := range l {
		s += strand(part)
	}
	return s
}

// puts holds what Put answers against what it should, and what was handed in
// against what it was.
func puts(t *testing.T, what string, r api.Replica, want string) {
	t.Helper()
	in := roomy(r)
	for range 2 {
		if got := replica.Put(in); got != want {
			t.Errorf("%s: Put of %s: %s, not %s", what, show(r), show(got), show(want))
		}
		untouched(t, what, in, r)
	}
}

func TestP15_5Put(t *testing.T) {
	puts(t, "a new one", replica.New(3, 9), "1:3,1:0,1:0,8:1:0,1:0,,1:0,1:0,0:,")
	puts(t, "a blank one", blank(), "1:3,1:2,1:1,8:1:0,1:0,,1:0,1:0,0:,")
	log := "1:3,1:1,1:1,1:x,1:2,0:,"
	r := with(follower(), func(r *api.Replica) {
		r.Raft.Roll.Entries = []api.Entry{{Term: 1, Text: "x"}, {Term: 2}}
		r.Raft.Vote, r.Raft.Granted, r.Raft.Progress = 6, []int64{1, 2}, []api.Progress{{Id: 1, Next: 2}}
	})
	whole := "1:3,1:5,1:6," + strand(log) + "1:5,1:5," + strand(deed.Put(some()))
	puts(t, "all of it", r, whole)
	puts(t, "whatever its raft does", with(r, func(r *api.Replica) { r.Raft.Role, r.Raft.Lead, r.Raft.Age, r.Raft.Draw = 3, 4, 5, 40 }), whole)
	for _, c := range append(right(), wrong()...) {
		plot := ""
		if c.r.Plot.Desc.Id != 0 {
			plot = deed.Put(c.r.Plot)
		}
		num := func(n int64) string { return strconv.FormatInt(n, 10) }
		a := c.r.Raft
		want := text(num(a.Me), num(a.Term), num(a.Vote), roll.Put(a.Roll), num(a.Commit), num(c.r.Applied), plot)
		puts(t, c.name, c.r, want)
	}
}

// lasting is r, but for what of it does not last, with this draw.
func lasting(r api.Replica, draw int) api.Replica {
	r = copied(r)
	a := r.Raft
	r.Raft = api.Raft{Me: a.Me, Term: a.Term, Vote: a.Vote, Roll: a.Roll, Commit: a.Commit, Draw: min(max(draw, 6), 40)}
	return r
}

func TestP15_5ThereAndBack(t *testing.T) {
	for _, c := range right() {
		for _, draw := range []int{-1, 0, 6, 7, 40, 41, math.MaxInt, math.MinInt} {
			s := replica.Put(c.r)
			got, e := replica.Parse(s, draw)
			if e != api.OK || !sameReplica(got, lasting(c.r, draw)) {
				t.Errorf("%s, with the draw %d: %s, %d", c.name, draw, show(got), e)
			}
			if replica.Put(got) != s || replica.Check(got) != api.OK {
				t.Errorf("%s: %s", c.name, show(got))
			}
		}
	}
	for _, c := range wrong() {
		r := lasting(c.r, 9)
		if replica.Blank(r) {
			r.Plot = api.Plot{}
		}
		// Else what may not be lies in what does not last.
		if replica.Check(r) != api.OK {
			parsesNot(t, c.name, replica.Put(c.r))
		}
	}
}

// More than a knot has: of texts that may be, of entries, and of bytes.
func TestP15_5GreatOnes(t *testing.T) {
	r := with(follower(), func(r *api.Replica) {
		r.Plot = great(1<<19, 1, me)
		for i := range 3000 {
			r.Plot.Pairs = append(r.Plot.Pairs, api.Pair{Key: "e" + strconv.Itoa(i+10000), Value: a(i % 512)})
		}
		for i := range int64(3000) {
			r.Raft.Roll.Entries = append(r.Raft.Roll.Entries, api.Entry{Term: 4, Text: a(int(i % 700))})
		}
		r.Raft.Roll.Entries[7].Text = a(1<<20 + 1)
	})
	s := replica.Put(r)
	got, e := replica.Parse(s, 8)
	if e != api.OK || !sameReplica(got, lasting(r, 8)) || len(s) < 1<<21 {
		t.Errorf("of %d bytes: %d", len(s), e)
	}
}

// parsesNot holds that there is no replica whose text s is.
func parsesNot(t *testing.T, what, s string) {
	t.Helper()
	for _, draw := range []int{0, 9} {
		if r, e := replica.Parse(s, draw); e != api.ErrReplica || !sameReplica(r, api.Replica{}) {
			t.Errorf("%s: Parse of %s: %s, %d", what, show(s), show(r), e)
		}
	}
}

// parts are the texts that follower's is made of, and blankParts those of a blank
// one's.
func parts() []string {
	return []string{"3", "5", "1", roll.Put(follower().Raft.Roll), "5", "5", deed.Put(some())}
}

func blankParts() []string {
	return []string{"3", "5", "1", "1:0,1:0,", "0", "0", ""}
}

func TestP15_5ParseOfTooFewOrTooMany(t *testing.T) {
	for _, l := range [][]string{parts(), blankParts()} {
		if _, e := replica.Parse(text(l...), 9); e != api.OK {
			t.Fatalf("the test itself: %d", e)
		}
		for n := range l {
			parsesNot(t, "too few", text(l[:n]...))
			parsesNot(t, "one is not there", text(append(append([]string{}, l[:n]...), l[n+1:]...)...))
			parsesNot(t, "one twice", text(append(append([]string{}, l[:n+1]...), l[n:]...)...))
			parsesNot(t, "one empty more", text(append(append([]string{}, l[:n]...), append([]string{""}, l[n:]...)...)...))
		}
		parsesNot(t, "too many", text(append(l, "")...))
		parsesNot(t, "too many", text(append(l, "0")...))
	}
}

func TestP15_5ParseOfNumbers(t *testing.T) {
	for _, l := range [][]string{parts(), blankParts()} {
		for _, i := range []int{0, 1, 2, 4, 5} {
			for _, n := range []string{"", "x", "-1", "0" + l[i], "+" + l[i], l[i] + " ", " " + l[i], l[i] + ".", "0x5", "-0", "1099511627777", "9223372036854775807", "9223372036854775808", "-9223372036854775808", "99999999999999999999999"} {
				now := append([]string{}, l...)
				now[i] = n
				parsesNot(t, "a number", text(now...))
			}
		}
	}
	// The least and the greatest that may be.
	for _, c := range []struct {
		at int
		n  string
		e  api.Errno
	}{
		{0, "0", api.ErrReplica}, {0, "1", api.OK}, {0, "1099511627776", api.OK},
		{1, "3", api.ErrReplica}, {1, "4", api.OK}, {1, "1099511627776", api.OK},
		{2, "0", api.OK}, {2, "1099511627776", api.OK},
		{4, "4", api.ErrReplica}, {4, "6", api.ErrReplica}, {4, "0", api.ErrReplica},
		{5, "4", api.ErrReplica}, {5, "6", api.ErrReplica}, {5, "0", api.ErrReplica},
	} {
		l := parts()
		l[c.at] = c.n
		if _, e := replica.Parse(text(l...), 9); e != c.e {
			t.Errorf("%d: %s: %d, not %d", c.at, c.n, e, c.e)
		}
	}
}

func TestP15_5ParseOfNoRollAndNoRange(t *testing.T) {
	log, plot := parts()[3], parts()[6]
	for _, s := range []string{"", "x", "1:3,", "1:3,1:1,1:1,", log + "x", log[:len(log)-1], "1:3,1:6,1:5,0:,", "1:3,1:9,", "2:03,1:1,", strings.Replace(log, "1:3,", "1:9,", 1)} {
		l := parts()
		l[3] = s
		parsesNot(t, "no roll", text(l...))
	}
	for _, s := range []string{"x", plot + "x", plot[:len(plot)-1], strand(""), deed.Put(api.Plot{}), "0", " "} {
		l := parts()
		l[6] = s
		parsesNot(t, "no range", text(l...))
		l = blankParts()
		l[6] = s
		parsesNot(t, "no range, of a blank one", text(l...))
	}
	// Of one that is not blank none, of a blank one one.
	l := parts()
	l[6] = ""
	parsesNot(t, "none", text(l...))
	l = blankParts()
	l[6] = plot
	parsesNot(t, "one", text(l...))
	l[4], l[5] = "1", "1"
	parsesNot(t, "one, without a log", text(l...))
	l[3] = "1:1,1:1,"
	if _, e := replica.Parse(text(l...), 9); e != api.OK {
		t.Errorf("with a log: %d", e)
	}
}

func TestP15_5ParseOfOtherTexts(t *testing.T) {
	for _, r := range []api.Replica{follower(), blank()} {
		s := replica.Put(r)
		for i := range s {
			parsesNot(t, "cut off", s[:i])
			parsesNot(t, "without its beginning", s[i+1:])
			parsesNot(t, "a byte more", s[:i]+"0"+s[i:])
			// Another byte may make another replica, whose text it is, then.
			spoilt := s[:i] + string(s[i]^1) + s[i+1:]
			if got, e := replica.Parse(spoilt, 9); e == api.OK && replica.Put(got) != spoilt || e != api.OK && e != api.ErrReplica {
				t.Errorf("Parse of %s: %s, %d", show(spoilt), show(got), e)
			}
		}
		parsesNot(t, "more", s+s)
		parsesNot(t, "more", s+" ")
	}
	parsesNot(t, "nothing", "")
}

// compacts holds what Compact answers against what it should, and what was handed
// in against what it was.
func compacts(t *testing.T, what string, r, want api.Replica) {
	t.Helper()
	in := roomy(r)
	for range 2 {
		got := replica.Compact(in)
		if !sameReplica(got, want) {
			t.Errorf("%s: Compact of %s: %s, not %s", what, show(r), show(got), show(want))
		}
		grown(got)
		untouched(t, what, in, r)
	}
}

func TestP15_5Compact(t *testing.T) {
	terms := map[int64]int64{3: 1, 4: 1, 5: 2, 6: 2, 7: 4, 8: 4}
	for _, r := range []api.Replica{follower(), leader()} {
		for to := int64(3); to <= 8; to++ {
			r := with(r, func(r *api.Replica) { r.Raft.Commit, r.Applied = to, to })
			want := with(r, func(r *api.Replica) {
				r.Raft.Roll = api.Roll{Base: to, BaseTerm: terms[to], Entries: r.Raft.Roll.Entries[to-3:]}
			})
			compacts(t, "up to what is applied", r, want)
			compacts(t, "again", want, want)
		}
	}
	for _, c := range right() {
		last := c.r.Raft.Roll.Base + int64(len(c.r.Raft.Roll.Entries))
		got := replica.Compact(c.r)
		if replica.Check(got) != api.OK || got.Raft.Roll.Base != c.r.Applied || got.Raft.Roll.Base+int64(len(got.Raft.Roll.Entries)) != last {
			t.Errorf("%s: %s", c.name, show(got))
		}
		if c.r.Applied == c.r.Raft.Roll.Base {
			compacts(t, c.name, c.r, c.r)
		}
	}
}

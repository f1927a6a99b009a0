package order_test

import (
	"math"
	"slices"
	"strconv"
	"strings"
	"testing"

	"furlong/api"
	"furlong/knot"
	"furlong/order"
)

// replyParts are the strands of some's text.
func replyParts() []string {
	return []string{"4", "60", "1", "v", "a", "1", "c", "", "b", "22"}
}

// refusesReply fails, if a text is taken for a reply's.
func refusesReply(t *testing.T, s string) {
	t.Helper()
	got, e := order.ParseReply(s)
	wantsReply(t, "ParseReply of "+show(s), got, e, api.Reply{}, api.ErrOrder)
}

func TestP7_3CheckReplyOfRepliesThatMayBe(t *testing.T) {
	for _, c := range rightReplies() {
		if e := order.CheckReply(c.r); e != api.OK {
			t.Errorf("%s: CheckReply of %s: %d", c.name, show(c.r), e)
		}
	}
}

func TestP7_3CheckReplyOfRepliesThatMayNotBe(t *testing.T) {
	for _, c := range wrongReplies() {
		if e := order.CheckReply(c.r); e != api.ErrOrder {
			t.Errorf("%s: CheckReply of %s: %d", c.name, show(c.r), e)
		}
	}
}

func TestP7_3CheckReplyOfEachCodeAndErr(t *testing.T) {
	for code := -2; code <= 7; code++ {
		for e := api.Errno(-1100); e <= 1100; e++ {
			want := api.ErrOrder
			if code == 4 && e >= 1 && e <= 999 || code >= 0 && code <= 3 && e == 0 {
				want = api.OK
			}
			if got := order.CheckReply(api.Reply{Code: code, Err: e}); got != want {
				t.Errorf("CheckReply of the Code %d and the Err %d: %d", code, e, got)
			}
		}
	}
}

// A pair that may not be is found wherever it stands.
func TestP7_3CheckReplyLooksAtEachPair(t *testing.T) {
	for _, n := range []int{1, 2, 3, 99, 100} {
		for i := range n {
			for _, bad := range []api.Pair{{}, {Value: "v"}, {Key: a(33)}, {Key: "a", Value: a(513)}} {
				r := api.Reply{Pairs: many(n, api.Pair{Key: "a", Value: "v"})}
				r.Pairs[i] = bad
				if e := order.CheckReply(r); e != api.ErrOrder {
					t.Errorf("%d pairs, of which %d may not be: %d", n, i, e)
				}
			}
		}
	}
}

func TestP7_3PutReplyIsTheKnotOfAllFields(t *testing.T) {
	for _, c := range []struct {
		r    api.Reply
		want string
	}{
		{api.Reply{}, "1:0,1:0,1:0,0:,"},
		{some(), "1:4,2:60,1:1,1:v,1:a,1:1,1:c,0:,1:b,2:22,"},
		{api.Reply{Code: 2, Value: "1:,"}, "1:2,1:0,1:0,3:1:,,"},
		{api.Reply{Pairs: []api.Pair{{Key: "", Value: "b"}}}, "1:0,1:0,1:0,0:,0:,1:b,"},
		{api.Reply{Code: -1, Err: math.MinInt, Has: true}, "2:-1,20:-9223372036854775808,1:1,0:,"},
		{api.Reply{Code: math.MaxInt, Err: -10}, "19:9223372036854775807,3:-10,1:0,0:,"},
	} {
		if got := order.PutReply(c.r); got != c.want {
			t.Errorf("PutReply of %s: %q, not %q", show(c.r), got, c.want)
		}
	}
	for _, c := range slices.Concat(rightReplies(), wrongReplies()) {
		if got := order.PutReply(c.r); got != replyText(c.r) {
			t.Errorf("%s: PutReply: %.200q", c.name, got)
		}
	}
}

func TestP7_3ParseReplyIsTheReplyOfPutReply(t *testing.T) {
	for _, c := range rightReplies() {
		got, e := order.ParseReply(replyText(c.r))
		wantsReply(t, c.name, got, e, c.r, api.OK)
	}
	got, e := order.ParseReply(knot.Tie(replyParts()...))
	wantsReply(t, "ParseReply", got, e, some(), api.OK)
}

func TestP7_3ParseReplyRefusesWhatMayNotBe(t *testing.T) {
	for _, c := range wrongReplies() {
		refusesReply(t, replyText(c.r))
	}
}

func TestP7_3ParseReplyRefusesWhatIsNoKnot(t *testing.T) {
	for _, r := range []api.Reply{some(), {}} {
		s := replyText(r)
		for _, bad := range []string{
			"", ",", ":", "1", "a", "\x00", "0", strings.Repeat("a", 2000000), strings.Repeat("1:1,", 1<<19),
			s + ",", s + "0", s + " ", s + "1", s + "\x00", " " + s, "0" + s, "\n" + s, "+" + s, "-" + s,
			strings.Replace(s, ",", ";", 1), strings.Replace(s, "0:,", ":,", 1), strings.Replace(s, "0:,", "00:,", 1), strings.Replace(s, "0:,", "-1:,", 1),
			strings.ReplaceAll(s, ",", ""), strings.ReplaceAll(s, ":", ""), strings.ReplaceAll(s, ",", ", "),
			knot.Seal(s), knot.Tie(s), knot.Tie(s, ""),
		} {
			refusesReply(t, bad)
		}
	}
	// Cut off behind its head, or behind a whole pair, it is a text, of fewer
	// pairs.
	s := replyText(some())
	for i := range s {
		if at := strings.Index(s, "1:a,"); i != at && i != at+8 && i != at+15 {
			refusesReply(t, s[:i])
		}
	}
	for i := range s[1:] {
		refusesReply(t, s[i+1:])
	}
}

func TestP7_3ParseReplyRefusesStrandsTooFewOrTooMany(t *testing.T) {
	for i := range replyParts() {
		if i < 4 || i%2 == 1 {
			refusesReply(t, knot.Tie(replyParts()[:i]...))
		}
		refusesReply(t, knot.Tie(slices.Delete(replyParts(), i, i+1)...))
		for _, more := range []string{"", "0", "1", "k"} {
			refusesReply(t, knot.Tie(slices.Insert(replyParts(), i, more)...))
		}
	}
	refusesReply(t, knot.Tie(append(replyParts(), "")...))
	refusesReply(t, knot.Tie(append(replyParts(), "a")...))
	refusesReply(t, knot.Tie("0", "0", "0", "", "a"))
	refusesReply(t, knot.Tie("0", "0", "0", "", ""))
	refusesReply(t, knot.Tie("0", "0", "0"))
	// One hundred pairs, and more.
	for n := 195; n <= 210; n++ {
		l := slices.Concat([]string{"0", "0", "0", ""}, slices.Repeat([]string{"a"}, n))
		got, e := order.ParseReply(knot.Tie(l...))
		if n <= 200 && n%2 == 0 {
			wantsReply(t, "ParseReply", got, e, api.Reply{Pairs: many(n/2, api.Pair{Key: "a", Value: "a"})}, api.OK)
		} else {
			wantsReply(t, "ParseReply", got, e, api.Reply{}, api.ErrOrder)
		}
	}
	for _, n := range []int{4000, 4091, 4092, 4093, 4094, 5000, 100000} {
		refusesReply(t, knot.Tie(slices.Concat([]string{"0", "0", "0", ""}, slices.Repeat([]string{"a"}, n))...))
	}
}

func TestP7_3ParseReplyRefusesANumberThatIsNone(t *testing.T) {
	for code := range 5 {
		l := replyParts()
		l[0], l[1] = strconv.Itoa(code), "0"
		if code == 4 {
			l[1] = "60"
		}
		got, e := order.ParseReply(knot.Tie(l...))
		wantsReply(t, "ParseReply", got, e, withReply(some(), func(r *api.Reply) {
			if r.Code = code; code != 4 {
				r.Err = 0
			}
		}), api.OK)
		for i := range 2 {
			for _, bad := range otherSpellings(l[i]) {
				near := slices.Clone(l)
				near[i] = bad
				refusesReply(t, knot.Tie(near...))
			}
			n, err := strconv.ParseInt(l[i], 10, 64)
			if err != nil {
				t.Fatal(err)
			}
			for _, d := range []int64{1 << 8, 1 << 16, 1 << 32, 1 << 62, -1 << 8, -1 << 32, math.MinInt64} {
				if code == 4 && i == 1 && d == 1<<8 {
					continue // an Err, too
				}
				near := slices.Clone(l)
				near[i] = strconv.FormatInt(n+d, 10)
				refusesReply(t, knot.Tie(near...))
			}
		}
	}
}

func TestP7_3ParseReplyRefusesAHasThatIsNeither(t *testing.T) {
	for _, bad := range []string{"", "2", "-1", "-0", "00", "01", "10", "11", "+1", "+0", " 1", "1 ", "0 ", "\x00", "\x01", "t", "true", "false", "y", "\xb1", a(100)} {
		l := replyParts()
		l[2] = bad
		refusesReply(t, knot.Tie(l...))
		refusesReply(t, knot.Tie(l[:4]...))
		refusesReply(t, knot.Tie("0", "0", bad, ""))
	}
}

// Whatever a text has: what is found in it may be, and has just this text.
func TestP7_3ParseReplyOfTextsThatAreNearlyRight(t *testing.T) {
	for _, r := range []api.Reply{some(), {}, {Code: 1, Value: "v"}, {Has: true, Pairs: many(2, api.Pair{Key: "a"})}} {
		s := replyText(r)
		for i := range s {
			for _, b := range []byte("\x00,-:0123456789ak\xff") {
				for _, near := range []string{s[:i] + string([]byte{b}) + s[i+1:], s[:i] + string([]byte{b}) + s[i:], s[:i] + s[i+1:]} {
					r, e := order.ParseReply(near)
					if e == api.OK && (order.CheckReply(r) != api.OK || replyText(r) != near) || e != api.OK && (e != api.ErrOrder || !equal(r, api.Reply{})) {
						t.Fatalf("ParseReply(%q): %+v %d", near, r, e)
					}
				}
			}
		}
	}
}

// Of all short knots of some strands just those are replies' texts that the
// chapter says.
func TestP7_3ParseReplyOfAllShortKnots(t *testing.T) {
	some := []string{"", "0", "1", "4", "01"}
	found := 0
	lists := [][]string{nil}
	for range 7 {
		var longer [][]string
		for _, l := range lists {
			for _, s := range some {
				longer = append(longer, append(slices.Clone(l), s))
			}
		}
		lists = longer
		for _, l := range lists {
			r, e := order.ParseReply(knot.Tie(l...))
			if e != api.OK {
				continue
			}
			found++
			if order.CheckReply(r) != api.OK || replyText(r) != knot.Tie(l...) {
				t.Fatalf("ParseReply of %q: %+v", l, r)
			}
		}
	}
	// Code and Err are 0 0, 1 0, 4 1, 4 4; two Has, five Values; no pair, or one
	// of four keys and five values.
	if want := 4 * 2 * 5 * (1 + 4*5); found != want {
		t.Errorf("%d replies, not %d", found, want)
	}
}

func TestP7_3SameIsAlikeInAll(t *testing.T) {
	all := slices.Concat(rightReplies(), wrongReplies())
	for _, c := range all {
		if !order.Same(c.r, roomy(c.r)) || !order.Same(roomy(c.r), c.r) {
			t.Errorf("%s: not the same as itself", c.name)
		}
		for _, o := range all {
			if want := equal(c.r, o.r); order.Same(c.r, o.r) != want {
				t.Errorf("%s and %s: %v", c.name, o.name, !want)
			}
		}
	}
}

// differences are changes of some, each of which makes it another reply.
func differences() []func(r *api.Reply) {
	return []func(r *api.Reply){
		func(r *api.Reply) { r.Code = 0 },
		func(r *api.Reply) { r.Code = 3 },
		func(r *api.Reply) { r.Code += 1 << 32 },
		func(r *api.Reply) { r.Err = 61 },
		func(r *api.Reply) { r.Err = 0 },
		func(r *api.Reply) { r.Err += 1 << 32 },
		func(r *api.Reply) { r.Has = false },
		func(r *api.Reply) { r.Value = "w" },
		func(r *api.Reply) { r.Value = "" },
		func(r *api.Reply) { r.Value = "v\x00" },
		func(r *api.Reply) { r.Pairs[0].Key = "b" },
		func(r *api.Reply) { r.Pairs[0].Value = "2" },
		func(r *api.Reply) { r.Pairs[0].Value = "" },
		func(r *api.Reply) { r.Pairs[1].Key = "C" },
		func(r *api.Reply) { r.Pairs[1].Value = "x" },
		func(r *api.Reply) { r.Pairs[2].Key = "" },
		func(r *api.Reply) { r.Pairs[2].Value = "2" },
		func(r *api.Reply) { r.Pairs[0] = api.Pair{Key: r.Pairs[0].Value, Value: r.Pairs[0].Key} },
		func(r *api.Reply) { r.Pairs = r.Pairs[:2] },
		func(r *api.Reply) { r.Pairs = r.Pairs[1:] },
		func(r *api.Reply) { r.Pairs = nil },
		func(r *api.Reply) { r.Pairs = append(r.Pairs, api.Pair{}) },
		func(r *api.Reply) { r.Pairs = append(r.Pairs, r.Pairs[2]) },
		func(r *api.Reply) { r.Pairs[0], r.Pairs[1] = r.Pairs[1], r.Pairs[0] },
		func(r *api.Reply) { slices.Reverse(r.Pairs) },
		func(r *api.Reply) { *r = api.Reply{} },
	}
}

func TestP7_3SameTellsEachDifference(t *testing.T) {
	for i, change := range differences() {
		r := withReply(some(), change)
		if order.Same(r, some()) || order.Same(some(), r) {
			t.Errorf("difference %d: %+v is the same", i, r)
		}
	}
}

func TestP7_3SameOfNoPairs(t *testing.T) {
	none := withReply(some(), func(r *api.Reply) { r.Pairs = nil })
	empty := withReply(some(), func(r *api.Reply) { r.Pairs = []api.Pair{} })
	if !order.Same(none, empty) || !order.Same(empty, none) || !order.Same(api.Reply{}, api.Reply{}) {
		t.Error("no pairs, and no pairs: not the same")
	}
	if order.PutReply(none) != order.PutReply(empty) || order.CheckReply(none) != order.CheckReply(empty) {
		t.Error("no pairs, and no pairs: not alike")
	}
}

func TestP7_3RepliesListsAreLeftAlone(t *testing.T) {
	for _, c := range slices.Concat(rightReplies(), wrongReplies()) {
		r, o := roomy(c.r), roomy(some())
		order.CheckReply(r)
		order.PutReply(r)
		order.Same(r, o)
		alone(t, c.name, r, c.r)
		alone(t, c.name, o, some())
	}
}

func TestP7_3ParsedRepliesShareNothing(t *testing.T) {
	s := replyText(some())
	one, _ := order.ParseReply(s)
	other, _ := order.ParseReply(s)
	for _, p := range []*api.Reply{&one, &other} {
		all := p.Pairs[:cap(p.Pairs)]
		for i := range all {
			all[i] = spare
		}
		if p == &one && !equal(other, some()) {
			t.Error("two answers share a list")
		}
	}
	again, e := order.ParseReply(s)
	wantsReply(t, "ParseReply", again, e, some(), api.OK)
}

func TestP7_5ParseReplyOfPutReplyIsTheReply(t *testing.T) {
	for _, c := range rightReplies() {
		got, e := order.ParseReply(order.PutReply(c.r))
		wantsReply(t, c.name, got, e, c.r, api.OK)
		if !order.Same(got, c.r) {
			t.Errorf("%s: not the same as it was", c.name)
		}
	}
}

func TestP7_5UnlikeRepliesHaveUnlikeTexts(t *testing.T) {
	var l []api.Reply
	for _, c := range slices.Concat(rightReplies(), wrongReplies()) {
		l = append(l, c.r)
	}
	for _, change := range differences() {
		l = append(l, withReply(some(), change))
	}
	l = append(l,
		api.Reply{Value: "a,1:b,1:c"}, api.Reply{Value: "a", Pairs: []api.Pair{{Key: "b", Value: "c"}}},
		api.Reply{Pairs: []api.Pair{{Key: "ab"}}}, api.Reply{Pairs: []api.Pair{{Key: "a", Value: "b"}}}, api.Reply{Pairs: []api.Pair{{Value: "ab"}}},
		api.Reply{Pairs: []api.Pair{{Key: "a"}, {Key: "b"}}}, api.Reply{Pairs: []api.Pair{{Key: "a,0:,1:b"}}},
	)
	texts := map[string]api.Reply{}
	for _, r := range l {
		s := order.PutReply(r)
		if o, there := texts[s]; there && !equal(o, r) {
			t.Errorf("%s and %s have one text", show(o), show(r))
		}
		texts[s] = r
	}
}

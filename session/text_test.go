package session_test

import (
	"math"
	"slices"
	"strconv"
	"strings"
	"testing"

	"furlong/api"
	"furlong/knot"
	"furlong/session"
)

// refuses fails, if a text is taken for sessions'.
func refuses(t *testing.T, s string) {
	t.Helper()
	got, e := session.Parse(s)
	wants(t, "Parse of "+show(s), got, e, nil, api.ErrSession)
}

// parts are the strands of some's text.
func parts() []string {
	return []string{
		"3", "5", "1:0,1:0,1:1,1:x,",
		"5", "1", "1:4,2:60,1:0,0:,",
		"9", "8", "1:0,1:0,1:0,2:yy,",
	}
}

func TestP8_5PutIsTheKnotOfEach(t *testing.T) {
	for _, c := range []struct {
		l    []api.Session
		want string
	}{
		{nil, ""},
		{[]api.Session{}, ""},
		{some()[:1], "1:3,1:5,16:1:0,1:0,1:1,1:x,,"},
		{some(), "1:3,1:5,16:1:0,1:0,1:1,1:x,,1:5,1:1,16:1:4,2:60,1:0,0:,,1:9,1:8,17:1:0,1:0,1:0,2:yy,,"},
		{[]api.Session{{}}, "1:0,1:0,15:1:0,1:0,1:0,0:,,"},
		{[]api.Session{of(maxSeq, 1, "a,")}, "13:1099511627776,1:1,17:1:0,1:0,1:0,2:a,,,"},
		{[]api.Session{of(1, maxSeq, "")}, "1:1,13:1099511627776,15:1:0,1:0,1:0,0:,,"},
		{[]api.Session{{Client: math.MinInt64, Seq: -1, Reply: api.Reply{Pairs: []api.Pair{{Key: "k", Value: "vv"}}}}}, "20:-9223372036854775808,2:-1,24:1:0,1:0,1:0,0:,1:k,2:vv,,"},
	} {
		if got := session.Put(c.l); got != c.want {
			t.Errorf("Put of %s: %q, not %q", show(c.l), got, c.want)
		}
	}
	for _, c := range slices.Concat(right(), wrong()) {
		l := roomy(c.l)
		if got := session.Put(l); got != text(c.l) {
			t.Errorf("%s: Put: %.200q", c.name, got)
		}
		alone(t, c.name, l, c.l)
	}
}

func TestP8_5ParseIsTheSessionsOfPut(t *testing.T) {
	for _, c := range right() {
		got, e := session.Parse(text(c.l))
		wants(t, c.name, got, e, c.l, api.OK)
		got, e = session.Parse(session.Put(c.l))
		wants(t, c.name, got, e, c.l, api.OK)
	}
	got, e := session.Parse(knot.Tie(parts()...))
	wants(t, "Parse", got, e, some(), api.OK)
	got, e = session.Parse("")
	wants(t, "Parse of nothing", got, e, nil, api.OK)
}

func TestP8_5ParseRefusesWhatMayNotBe(t *testing.T) {
	for _, c := range wrong() {
		refuses(t, text(c.l))
	}
}

func TestP8_5ParseRefusesWhatIsNoKnot(t *testing.T) {
	for _, l := range [][]api.Session{some(), some()[:1], {of(1, 1, "")}} {
		s := text(l)
		for _, bad := range []string{
			",", ":", "1", "a", "\x00", "0", strings.Repeat("a", 2000000), strings.Repeat("1:1,", 1<<19),
			s + ",", s + "0", s + " ", s + "1", s + "\x00", " " + s, "0" + s, "\n" + s, s + s,
			"+" + s, "-" + s, strings.Replace(s, ",", ";", 1), strings.Replace(s, "1:", ":", 1), strings.Replace(s, "1:", "01:", 1),
			strings.Replace(s, "1:", "2:", 1), strings.Replace(s, "1:", "-1:", 1), strings.ReplaceAll(s, ",", ""), strings.ReplaceAll(s, ":", ""),
			knot.Seal(s), knot.Tie(s), knot.Tie(s, ""), strings.ReplaceAll(s, ",", ", "),
		} {
			refuses(t, bad)
		}
		for i := range s {
			if !slices.Contains([]string{text(l[:1]), text(l[:min(len(l), 2)])}, s[:i]) && i > 0 {
				refuses(t, s[:i])
			}
		}
	}
}

func TestP8_5ParseRefusesStrandsTooFewOrTooMany(t *testing.T) {
	l := parts()
	for i := range l {
		refuses(t, knot.Tie(slices.Delete(slices.Clone(l), i, i+1)...))
		if i%3 != 0 {
			refuses(t, knot.Tie(l[:i]...))
			refuses(t, knot.Tie(l[i:]...))
		}
	}
	for i := 0; i <= len(l); i++ {
		for _, more := range []string{"", "0", "1", "10", l[2]} {
			refuses(t, knot.Tie(slices.Insert(slices.Clone(l), i, more)...))
			refuses(t, knot.Tie(slices.Insert(slices.Clone(l), i, more, more)...))
			refuses(t, knot.Tie(slices.Insert(slices.Clone(l), i, more, more, more)...))
		}
	}
	for _, n := range []int{1, 2, 3, 192, 4087, 4088, 5000} {
		refuses(t, knot.Tie(slices.Concat(l, slices.Repeat([]string{"11"}, n))...))
		refuses(t, knot.Tie(slices.Concat(l, make([]string, n))...))
		refuses(t, knot.Tie(slices.Repeat([]string{"1"}, n)...))
		refuses(t, knot.Tie(make([]string, n)...))
	}
}

// A session more than may be, and far more, though each of them may be.
func TestP8_5ParseRefusesTooManySessions(t *testing.T) {
	got, e := session.Parse(text(row(1, 64)))
	wants(t, "Parse", got, e, row(1, 64), api.OK)
	for _, n := range []int{65, 66, 128, 320, 1365, 1366, 5000} {
		refuses(t, text(row(1, n)))
	}
}

// otherSpellings are texts that a number's is nearly, or that are no number.
func otherSpellings(n string) []string {
	return []string{
		"", "a", "-", "+", "+" + n, "-" + n, "0" + n, "00" + n, " " + n, n + " ", n + "\n", n + "\x00", n + ".0", n + "a", "0x" + n, "0b" + n, "1_" + n, "0", "-0", "1e1",
		"99999999999999999999", "18446744073709551616", "18446744073709551617", "9223372036854775808", "-9223372036854775809", "\u0661", "\xff", strings.Repeat("9", 10000),
	}
}

func TestP8_5ParseRefusesANumberThatIsNone(t *testing.T) {
	for _, i := range []int{0, 1, 3, 4, 6, 7} {
		n := parts()[i]
		bad := otherSpellings(n)
		at, err := strconv.ParseInt(n, 10, 64)
		if err != nil {
			t.Fatal(err)
		}
		for _, by := range []int64{math.MinInt64, -1 << 32, -1 << 16, -1 << 8, 1 << 62, 1 << 44} {
			bad = append(bad, strconv.FormatInt(at+by, 10))
		}
		for _, near := range bad {
			l := parts()
			l[i] = near
			refuses(t, knot.Tie(l...))
		}
	}
}

func TestP8_5ParseRefusesAReplyThatIsNone(t *testing.T) {
	var bad []string
	for _, s := range []string{parts()[2], parts()[5], parts()[8]} {
		bad = append(bad, "", "0", s+",", s+"0:,", s+s, s[1:], s[:len(s)-1], "0"+s, " "+s, s+" ", s+"1:k,0:,", s+"1:k,", knot.Tie(s), strings.Replace(s, "1:0,", "2:00,", 1), strings.Replace(s, "1:0,", "1:2,", 3))
	}
	for _, r := range wrongReplies() {
		bad = append(bad, replyText(r))
	}
	for _, i := range []int{2, 5, 8} {
		for _, near := range bad {
			l := parts()
			l[i] = near
			refuses(t, knot.Tie(l...))
		}
	}
}

func TestP8_5ParseRefusesSessionsOutOfTheirOrder(t *testing.T) {
	l := parts()
	one, two, three := l[:3], l[3:6], l[6:]
	for _, order := range [][][]string{
		{two, one}, {three, one}, {three, two}, {one, one}, {two, two}, {one, three, two}, {two, one, three}, {two, three, one}, {three, one, two}, {three, two, one},
		{one, two, two}, {one, one, two}, {one, two, one}, {one, two, three, three}, {one, two, three, one},
	} {
		refuses(t, knot.Tie(slices.Concat(order...)...))
	}
}

// Whatever a text has: what is found in it may be, and has just this text.
func TestP8_5ParseOfTextsThatAreNearlyRight(t *testing.T) {
	for _, l := range [][]api.Session{some(), some()[:1], some()[1:2], {of(1, 1, ""), of(2, 10, "a,")}} {
		s := text(l)
		for i := range s {
			for _, b := range []byte("\x00,-:0123456789ax\xff") {
				for _, near := range []string{s[:i] + string([]byte{b}) + s[i+1:], s[:i] + string([]byte{b}) + s[i:], s[:i] + s[i+1:]} {
					got, e := session.Parse(near)
					if e == api.OK && (!may(got) || text(got) != near) || e != api.OK && (e != api.ErrSession || got != nil) {
						t.Fatalf("Parse(%q): %s %d", near, show(got), e)
					}
				}
			}
		}
	}
}

func TestP8_5ParseSharesNothing(t *testing.T) {
	s := text(some())
	one, _ := session.Parse(s)
	other, _ := session.Parse(s)
	scribble(one)
	wants(t, "the other answer", other, api.OK, some(), api.OK)
	again, e := session.Parse(s)
	wants(t, "Parse again", again, e, some(), api.OK)
}

func TestP8_5UnlikeSessionsHaveUnlikeTexts(t *testing.T) {
	texts := map[string][]api.Session{}
	for _, c := range slices.Concat(right(), wrong()) {
		s := session.Put(c.l)
		if o, there := texts[s]; there && !slices.EqualFunc(o, c.l, equal) {
			t.Errorf("%s: %s and %s have one text", c.name, show(o), show(c.l))
		}
		texts[s] = c.l
	}
}

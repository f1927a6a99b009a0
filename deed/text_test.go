package deed_test

import (
	"math"
	"slices"
	"strconv"
	"strings"
	"testing"

	"furlong/api"
	"furlong/deed"
	"furlong/knot"
)

// Which of a plot's texts is which.
const (
	partDesc = iota
	partPairs
	partSessions
	partFrozen
	partEaten
	partAlloc
)

// refuses fails, if a text is taken for a plot's.
func refuses(t *testing.T, s string) {
	t.Helper()
	got, e := deed.Parse(s)
	wants(t, "Parse of "+show(s), got, e, api.Plot{}, api.ErrDeed)
}

// swapped is some's text with another one in the place of one of its parts.
func swapped(i int, by string) string {
	l := parts(some())
	l[i] = by
	return knot.Tie(l...)
}

func TestP9_2PutIsTheKnotOfAllFields(t *testing.T) {
	first := api.Desc{Id: 1, Gen: 1, Members: []api.Member{{Node: 3, Id: 1}}, Next: 2}
	for _, c := range []struct {
		p    api.Plot
		want string
	}{
		{api.Plot{Desc: first}, "26:1:1,0:,0:,1:1,1:2,1:3,1:1,,0:,0:,1:0,0:,1:0,"},
		{api.Plot{Desc: first, Alloc: 1}, "26:1:1,0:,0:,1:1,1:2,1:3,1:1,,0:,0:,1:0,0:,1:1,"},
		{api.Plot{Desc: first, Frozen: true, Alloc: maxId}, "26:1:1,0:,0:,1:1,1:2,1:3,1:1,,0:,0:,1:1,0:,13:1099511627776,"},
		{
			api.Plot{Desc: first, Pairs: []api.Pair{{Key: "a", Value: "x,"}, {Key: "b:"}}, Eaten: []int64{2, 10}},
			"26:1:1,0:,0:,1:1,1:2,1:3,1:1,,17:1:a,2:x,,2:b:,0:,,0:,1:0,9:1:2,2:10,,1:0,",
		},
		{
			api.Plot{Desc: first, Sessions: []api.Session{{Client: 3, Seq: 5, Reply: api.Reply{Has: true, Value: "x"}}}},
			"26:1:1,0:,0:,1:1,1:2,1:3,1:1,,0:,28:1:3,1:5,16:1:0,1:0,1:1,1:x,,,1:0,0:,1:0,",
		},
		{api.Plot{}, "18:1:0,0:,0:,1:0,1:0,,0:,0:,1:0,0:,1:0,"},
		{
			api.Plot{Pairs: []api.Pair{{Key: "b"}, {Key: "a"}, {Key: "", Value: "v"}}, Eaten: []int64{-1, math.MinInt64, 0}, Alloc: -1},
			"18:1:0,0:,0:,1:0,1:0,,21:1:b,0:,1:a,0:,0:,1:v,,0:,1:0,33:2:-1,20:-9223372036854775808,1:0,,2:-1,",
		},
	} {
		if got := deed.Put(c.p); got != c.want {
			t.Errorf("Put of %s: %q, not %q", show(c.p), got, c.want)
		}
	}
	for _, c := range slices.Concat(right(), wrong()) {
		p := roomy(c.p)
		if got := deed.Put(p); got != text(c.p) {
			t.Errorf("%s: Put: %.300q", c.name, got)
		}
		alone(t, c.name, p, c.p)
	}
}

func TestP9_2ParseIsThePlotOfPut(t *testing.T) {
	for _, c := range right() {
		got, e := deed.Parse(text(c.p))
		wants(t, c.name, got, e, c.p, api.OK)
		got, e = deed.Parse(deed.Put(c.p))
		wants(t, c.name, got, e, c.p, api.OK)
	}
}

// Nothing bounds a plot's pairs: their text may have more strands, and more
// bytes, than a knot that is untied.
func TestP9_2ParseOfMorePairsThanAKnotsStrands(t *testing.T) {
	for _, n := range []int{1023, 1024, 2047, 2048, 2049, 4096, 4097, 6000, 50000} {
		p := with(some(), func(p *api.Plot) { p.Pairs = many(n, "v") })
		got, e := deed.Parse(text(p))
		wants(t, strconv.Itoa(n)+" pairs", got, e, p, api.OK)
		refuses(t, text(with(p, func(p *api.Plot) { p.Pairs[n-1].Key = "d" })))
		refuses(t, text(with(p, func(p *api.Plot) { p.Pairs[n-1].Value = a(513) })))
	}
	for _, n := range []int{1900, 2040, 3000, 9000} {
		p := with(some(), func(p *api.Plot) { p.Pairs = many(n, a(512)) })
		got, e := deed.Parse(text(p))
		wants(t, strconv.Itoa(n)+" long pairs", got, e, p, api.OK)
	}
}

func TestP9_2ParseRefusesWhatMayNotBe(t *testing.T) {
	for _, c := range wrong() {
		refuses(t, text(c.p))
	}
}

func TestP9_2ParseRefusesWhatIsNoKnot(t *testing.T) {
	first := api.Plot{Desc: api.Desc{Id: 1, Gen: 1, Members: []api.Member{{Node: 3, Id: 1}}, Next: 2}}
	for _, p := range []api.Plot{some(), beside(), first} {
		s := text(p)
		for _, bad := range []string{
			"", ",", ":", "1", "a", "\x00", "0", "0:", strings.Repeat("a", 2000000), strings.Repeat("1:1,", 1<<19), strings.Repeat(":", 1<<20), strings.Repeat("0:,", 6),
			s + ",", s + "0", s + " ", s + "1", s + "\x00", s + "0:,", s + "1:", " " + s, "0" + s, "\n" + s, "+" + s, "-" + s, s + s,
			strings.Replace(s, ",", ";", 1), strings.Replace(s, ":", ";", 1), strings.ReplaceAll(s, ",", ""), strings.ReplaceAll(s, ":", ""), strings.ReplaceAll(s, ",", ", "),
			s[:len(s)-1] + ";", knot.Seal(s), knot.Tie(s), knot.Tie(s, ""),
			"9223372036854775807:" + s, "9223372036854775808:" + s, "-1:" + s, "-9223372036854775808:" + s, "18446744073709551616:" + s, "4294967296:" + s, "2147483647:" + s, ":" + s,
		} {
			refuses(t, bad)
		}
		for i := range s {
			refuses(t, s[:i])
			if i > 0 {
				refuses(t, s[i:])
			}
		}
	}
}

func TestP9_2ParseRefusesStrandsTooFewOrTooMany(t *testing.T) {
	l := parts(some())
	for i := range l {
		refuses(t, knot.Tie(slices.Delete(slices.Clone(l), i, i+1)...))
		refuses(t, knot.Tie(l[:i]...))
		refuses(t, knot.Tie(l[i+1:]...))
	}
	for i := 0; i <= len(l); i++ {
		for _, more := range append(slices.Clone(l), "", "0", "1") {
			refuses(t, knot.Tie(slices.Insert(slices.Clone(l), i, more)...))
			refuses(t, knot.Tie(slices.Insert(slices.Clone(l), i, more, more)...))
		}
	}
	for _, n := range []int{1, 2, 6, 256, 4090, 4091, 65536} {
		refuses(t, knot.Tie(slices.Concat(l, make([]string, n))...))
		refuses(t, knot.Tie(slices.Concat(l, slices.Repeat([]string{"1"}, n))...))
	}
	for i := range l {
		for j := range i {
			x := slices.Clone(l)
			x[i], x[j] = x[j], x[i]
			refuses(t, knot.Tie(x...))
		}
	}
}

// nearly are texts that are almost s, which is one of a plot's parts.
func nearly(s string) []string {
	return []string{
		s + ",", s + "0", s + " ", s + "\x00", " " + s, "0" + s, "+" + s, s + "0:,", "0:," + s, s + "1:a,", s + "1:1,", s + "0", s + "x", "a", ":", ",", "0:", "1:", "1:a", "-", "0:,", "1:1,", "-1",
		"2:1,", "01:1,", "+1:1,", "1:01,", " 1:1,", "1:1;", "1:1", "-1:,", "99999999999999999999:1,", "9223372036854775807:,", "1:1,1:2", knot.Tie(s), knot.Tie(s, s),
		strings.Repeat("1:1,", 5000), strings.Repeat("0:,", 5000),
	}
}

// Whatever stands in the place of one part: what is found there may be, and has
// just this text.
func TestP9_2ParseRefusesAPartThatIsNone(t *testing.T) {
	for i, part := range parts(some()) {
		bad := append(nearly(part), "")
		for j := range part {
			bad = append(bad, part[:j], part[j+1:], part[:j]+";"+part[j+1:], part[:j]+":"+part[j:], part[:j]+","+part[j+1:])
		}
		for _, by := range bad {
			s := swapped(i, by)
			got, e := deed.Parse(s)
			if e == api.OK && (!may(got) || text(got) != s) || e != api.OK && (e != api.ErrDeed || !equal(got, api.Plot{})) {
				t.Errorf("Parse(%q): %s %d", s[:min(len(s), 300)], show(got), e)
			}
		}
	}
	for _, bad := range []string{"", "a", ",", "1:1,", "0:,", parts(some())[partDesc] + "1:3,", parts(some())[partDesc] + "0", strings.Repeat("0:,", 5)} {
		refuses(t, swapped(partDesc, bad))
	}
	for _, bad := range []string{"a", ",", ":", "0:", "1:3,", "1:3,1:5,", "1:3,1:5,0:,", parts(some())[partSessions] + "0", parts(some())[partSessions] + "0:,", "0"} {
		refuses(t, swapped(partSessions, bad))
	}
}

func TestP9_2ParseRefusesPairsThatAreNone(t *testing.T) {
	s := parts(some())[partPairs]
	for _, bad := range []string{
		"a", ",", ":", "0", "1", "0:", "1:c", "1:c,", "1:c,1:", "1:c,1:v", "1:c,1:v;", "1:c,1:v,1:d,", "1:c,0:,1:d,", "1:c,2:v,", "01:c,1:v,", "1:c,01:v,", "1:c,+1:v,", "1:c,1:v, ", " 1:c,1:v,",
		s + "1:oo,", s + "2:oo", s + "2:oo,", s + "0:,", s + "0", s + ",", s + "\x00", "2:cc," + s, "0:," + s, s[1:], s[:len(s)-1], s + s, knot.Tie(s), strings.Repeat("1:g,", 5000),
	} {
		refuses(t, swapped(partPairs, bad))
	}
	got, e := deed.Parse(swapped(partPairs, "1:c,1:v,1:d,0:,"))
	wants(t, "other pairs", got, e, with(some(), func(p *api.Plot) { p.Pairs = []api.Pair{{Key: "c", Value: "v"}, {Key: "d"}} }), api.OK)
	got, e = deed.Parse(swapped(partPairs, ""))
	wants(t, "no pairs", got, e, with(some(), func(p *api.Plot) { p.Pairs = nil }), api.OK)
}

func TestP9_2ParseRefusesAMarkThatIsNone(t *testing.T) {
	for _, bad := range []string{"", "2", "-1", "-0", "00", "01", "10", "11", "+1", " 1", "1 ", "1\n", "0\x00", "\x00", "\x01", "true", "t", "x", "\xff", "1:1,", "0:,", "\u0661", strings.Repeat("1", 10000)} {
		refuses(t, swapped(partFrozen, bad))
	}
	for mark, is := range map[string]int{"0": 0, "1": 1} {
		got, e := deed.Parse(swapped(partFrozen, mark))
		wants(t, "the mark "+mark, got, e, with(some(), func(p *api.Plot) { p.Frozen = is == 1 }), api.OK)
	}
}

// otherSpellings are texts that a number's is nearly, or that are no number.
func otherSpellings(n string) []string {
	return []string{
		"", "a", "-", "+", "+" + n, "-" + n, "0" + n, "00" + n, " " + n, n + " ", n + "\n", n + "\x00", n + ".0", n + "a", "0x" + n, "0b" + n, "1_" + n, "-0", "1e1", "-1",
		"1099511627777", "99999999999999999999", "18446744073709551616", "18446744073709551627", "9223372036854775808", "9223372036854775807", "-9223372036854775808", "-9223372036854775809",
		"\u0661", "\xff", strings.Repeat("9", 10000),
	}
}

func TestP9_2ParseRefusesAnAllocThatIsNone(t *testing.T) {
	for _, bad := range otherSpellings("11") {
		refuses(t, swapped(partAlloc, bad))
	}
	for _, n := range []int64{0, 1, 7, 11, maxId - 1, maxId} {
		got, e := deed.Parse(swapped(partAlloc, num(n)))
		wants(t, "an Alloc", got, e, with(some(), func(p *api.Plot) { p.Alloc = n }), api.OK)
	}
}

func TestP9_2ParseRefusesEatenThatAreNone(t *testing.T) {
	for _, bad := range append(otherSpellings("7"), "0", "6", "8", "5") {
		refuses(t, swapped(partEaten, knot.Tie("6", bad, "8")))
	}
	for _, bad := range append(otherSpellings("7"), "0") {
		refuses(t, swapped(partEaten, knot.Tie(bad)))
	}
	s := parts(some())[partEaten]
	for _, bad := range []string{
		"6", "8", "6,8", ",", ":", "a", "0", "1:6", "1:6,1", "1:6,1:", "1:6,1:8", "1:6,1:8;", "01:6,1:8,", "1:6,01:8,", "1:6, 1:8,", "2:06,1:8,", "1:8,1:6,", "1:6,1:6,", "0:," + s, s + "0:,", s + "1", s + ",",
	} {
		refuses(t, swapped(partEaten, bad))
	}
	var l []string
	for i := range 5000 {
		l = append(l, strconv.Itoa(i+1))
	}
	for _, n := range []int{201, 202, 256, 4096, 4097, 5000} {
		refuses(t, swapped(partEaten, knot.Tie(l[:n]...)))
	}
	for _, n := range []int{0, 1, 2, 199, 200} {
		got, e := deed.Parse(swapped(partEaten, knot.Tie(l[:n]...)))
		wants(t, "Eaten", got, e, with(some(), func(p *api.Plot) { p.Eaten = numbers(1, n) }), api.OK)
	}
}

// Whatever a text has: what is found in it may be, and has just this text.
func TestP9_2ParseOfTextsThatAreNearlyRight(t *testing.T) {
	first := api.Plot{Desc: api.Desc{Id: 1, Gen: 1, Members: []api.Member{{Node: 3, Id: 1}}, Next: 2}, Alloc: 1}
	found := 0
	for _, p := range []api.Plot{some(), beside(), first} {
		s := text(p)
		for i := range s {
			for _, b := range []byte("\x00,-:0123456789acp\xff") {
				for _, near := range []string{s[:i] + string([]byte{b}) + s[i+1:], s[:i] + string([]byte{b}) + s[i:], s[:i] + s[i+1:]} {
					got, e := deed.Parse(near)
					if e == api.OK && (!may(got) || text(got) != near) || e != api.OK && (e != api.ErrDeed || !equal(got, api.Plot{})) {
						t.Fatalf("Parse(%q): %s %d", near, show(got), e)
					}
					if e == api.OK {
						found++
					}
				}
			}
		}
	}
	if found < 100 {
		t.Error(found)
	}
}

func TestP9_2ParseSharesNothing(t *testing.T) {
	for _, c := range right() {
		s := text(c.p)
		one, _ := deed.Parse(s)
		other, _ := deed.Parse(s)
		scribble(one)
		wants(t, c.name, other, api.OK, c.p, api.OK)
		again, e := deed.Parse(s)
		wants(t, c.name, again, e, c.p, api.OK)
	}
}

func TestP9_2UnlikePlotsHaveUnlikeTexts(t *testing.T) {
	texts := map[string]api.Plot{}
	for _, c := range right() {
		s := deed.Put(c.p)
		if o, there := texts[s]; there && !equal(o, c.p) {
			t.Errorf("%s: %s and %s have one text", c.name, show(o), show(c.p))
		}
		texts[s] = c.p
	}
}

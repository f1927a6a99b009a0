package desc_test

import (
	"math"
	"slices"
	"strconv"
	"strings"
	"testing"

	"furlong/api"
	"furlong/desc"
	"furlong/knot"
)

// strand is a text's strand.
func strand(s string) string {
	return strconv.Itoa(len(s)) + ":" + s + ","
}

// text is the text that the chapter says of a descriptor.
func text(d api.Desc) string {
	num := func(n int64) string { return strand(strconv.FormatInt(n, 10)) }
	var b strings.Builder
	b.WriteString(num(d.Id) + strand(d.Bound.From) + strand(d.Bound.To) + num(d.Gen) + num(d.Next))
	for _, m := range d.Members {
		b.WriteString(num(int64(m.Node)) + num(m.Id))
	}
	return b.String()
}

// parts are the strands of some's text.
func parts() []string {
	return []string{"4", "c", "p", "9", "8", "2", "1", "7", "3", "1", "6"}
}

// refuses fails, if a text is taken for a descriptor's.
func refuses(t *testing.T, s string) {
	t.Helper()
	got, e := desc.Parse(s)
	wants(t, "Parse of "+strconv.Quote(s[:min(len(s), 200)]), got, e, api.Desc{}, api.ErrDesc)
}

func TestP6_5PutIsTheKnotOfAllFields(t *testing.T) {
	for _, c := range []struct {
		d    api.Desc
		want string
	}{
		{some(), "1:4,1:c,1:p,1:9,1:8,1:2,1:1,1:7,1:3,1:1,1:6,"},
		{api.Desc{Id: 1, Gen: 1, Members: at(3), Next: 2}, "1:1,0:,0:,1:1,1:2,1:3,1:1,"},
		{api.Desc{Id: maxId, Bound: of("a:", "b,"), Gen: 10, Members: at(7, 1), Next: 100}, "13:1099511627776,2:a:,2:b,,2:10,3:100,1:7,1:1,1:1,1:2,"},
		{api.Desc{}, "1:0,0:,0:,1:0,1:0,"},
		{api.Desc{Id: -1, Gen: math.MinInt64, Next: math.MaxInt64, Members: []api.Member{{Node: -8, Id: -20}}}, "2:-1,0:,0:,20:-9223372036854775808,19:9223372036854775807,2:-8,3:-20,"},
	} {
		if got := desc.Put(c.d); got != c.want {
			t.Errorf("Put(%+v): %q, not %q", c.d, got, c.want)
		}
	}
	for _, c := range slices.Concat(right(), wrong()) {
		if got := desc.Put(c.d); got != text(c.d) {
			t.Errorf("%s: Put: %.200q", c.name, got)
		}
	}
}

func TestP6_5ParseIsTheDescriptorOfPut(t *testing.T) {
	for _, c := range right() {
		got, e := desc.Parse(text(c.d))
		wants(t, c.name, got, e, c.d, api.OK)
	}
	got, e := desc.Parse(knot.Tie(parts()...))
	wants(t, "Parse", got, e, some(), api.OK)
}

func TestP6_5ParseRefusesWhatMayNotBe(t *testing.T) {
	for _, c := range wrong() {
		refuses(t, text(c.d))
	}
}

func TestP6_5ParseRefusesWhatIsNoKnot(t *testing.T) {
	s := text(some())
	for _, bad := range []string{
		"", ",", ":", "1", "a", "4cp98217316", "4,c,p,9,8,2,1,", strings.Repeat("a", 2000000), "\x00",
		s + ",", s + "0", s + " ", s + "1", " " + s, "0" + s, "\n" + s,
		strings.Replace(s, "1:4", "01:4", 1), strings.Replace(s, "1:4", "+1:4", 1), strings.Replace(s, "1:4,", "1:4;", 1), strings.Replace(s, "1:c", "2:c", 1),
		strings.Replace(s, "1:c", "-1:c", 1), strings.Replace(s, "1:c", ":c", 1), strings.ReplaceAll(s, ",", ""), strings.ReplaceAll(s, ":", ""),
		knot.Seal(s), knot.Tie(s), knot.Tie(s, ""), "1:4, 1:c,1:p,1:9,1:8,1:2,1:1,", "1:4,1:c,1:p,1:9,1:8,1:2,1:1",
	} {
		refuses(t, bad)
	}
	// Cut off behind a whole member it is a text, of fewer members.
	for i := range s {
		if s[:i] != knot.Tie(parts()[:7]...) && s[:i] != knot.Tie(parts()[:9]...) {
			refuses(t, s[:i])
		}
	}
}

func TestP6_5ParseRefusesStrandsTooFewOrTooMany(t *testing.T) {
	for i := range parts() {
		if i != 7 && i != 9 {
			refuses(t, knot.Tie(parts()[:i]...))
		}
		refuses(t, knot.Tie(slices.Delete(parts(), i, i+1)...))
		refuses(t, knot.Tie(parts()[i+1:]...))
	}
	refuses(t, knot.Tie(append(parts(), "3")...))
	refuses(t, knot.Tie(append(parts(), "")...))
	refuses(t, knot.Tie(append(parts(), "3", "7", "4")...))
	refuses(t, knot.Tie(append(parts(), "", "")...))
	for i := 0; i <= len(parts()); i++ {
		refuses(t, knot.Tie(slices.Insert(parts(), i, "3")...))
		refuses(t, knot.Tie(slices.Insert(parts(), i, "")...))
	}
	for _, n := range []int{3, 5, 6, 7, 9, 100, 4000, 4085, 4086, 5000} {
		l := parts()
		for i := range n {
			l = append(l, strconv.Itoa(3+i), strconv.Itoa(7+i))
		}
		l[4] = "100000"
		refuses(t, knot.Tie(l...))
	}
}

func TestP6_5ParseRefusesANumberThatIsNone(t *testing.T) {
	for i := range parts() {
		if i == 1 || i == 2 {
			continue // the bound's ends, which are no numbers
		}
		n := parts()[i]
		for _, bad := range []string{
			"", "a", "-", "+" + n, "-" + n, "0" + n, "00" + n, " " + n, n + " ", n + "\n", n + "\x00", n + ".0", n + "a", "0x" + n, "1_0", "-0", "1e1",
			"99999999999999999999", "18446744073709551617", "\u0661", "\xff", strings.Repeat("9", 10000),
		} {
			l := parts()
			l[i] = bad
			refuses(t, knot.Tie(l...))
		}
	}
}

func TestP6_5ParseRefusesANodeThatIsNone(t *testing.T) {
	for _, i := range []int{5, 7, 9} {
		for _, node := range []string{"0", "8", "-2", "257", "258", "4294967297", "4294967298", "-4294967295", "18446744073709551618", "9223372036854775807", "-9223372036854775808"} {
			l := parts()
			l[i] = node
			refuses(t, knot.Tie(l...))
		}
	}
}

// Whatever a text has: what is found in it may be, and has just this text.
func TestP6_5ParseOfTextsThatAreNearlyRight(t *testing.T) {
	for _, c := range right() {
		s := text(c.d)
		for i := range s {
			for _, b := range []byte("\x00,-:0123456789ac\xff") {
				for _, near := range []string{s[:i] + string([]byte{b}) + s[i+1:], s[:i] + string([]byte{b}) + s[i:], s[:i] + s[i+1:]} {
					d, e := desc.Parse(near)
					if e == api.OK && (!mayBe(d) || text(d) != near) || e != api.OK && (e != api.ErrDesc || !equal(d, api.Desc{})) {
						t.Fatalf("Parse(%q): %+v %d", near, d, e)
					}
				}
			}
		}
	}
}

// Of all short knots of some strands just those are descriptors' texts that the
// chapter says.
func TestP6_5ParseOfAllShortKnots(t *testing.T) {
	some := []string{"", "0", "1", "2", "01"}
	found := 0
	lists := [][]string{nil}
	for range 7 {
		var longer [][]string
		for _, l := range lists {
			for _, s := range some {
				longer = append(longer, append(slices.Clone(l), s))
			}
		}
		lists = longer
		for _, l := range lists {
			d, e := desc.Parse(knot.Tie(l...))
			if e != api.OK {
				continue
			}
			found++
			if !mayBe(d) || text(d) != knot.Tie(l...) {
				t.Fatalf("Parse of %q: %+v", l, d)
			}
		}
	}
	// Id 1 or 2, nine bounds that may be, Gen 1 or 2, Next 2, Node 1 or 2, and
	// the number 1.
	ends := 0
	for _, from := range some {
		for _, to := range some {
			if to == "" || to > from {
				ends++
			}
		}
	}
	if want := 2 * ends * 2 * 2; found != want {
		t.Errorf("%d descriptors, not %d", found, want)
	}
}

func TestP6_5UnlikeOnesHaveUnlikeTexts(t *testing.T) {
	all := map[string]string{}
	for _, c := range slices.Concat(right(), wrong()) {
		s := desc.Put(c.d)
		if o, there := all[s]; there && mayBe(c.d) {
			t.Errorf("%s and %s have one text", c.name, o)
		}
		all[s] = c.name
	}
}

func TestP6_5PutLeavesItsListAlone(t *testing.T) {
	for _, c := range right() {
		d := roomy(c.d)
		s := desc.Put(d)
		one, _ := desc.Parse(s)
		other, _ := desc.Parse(s)
		alone(t, "Put, Parse", d, c.d, one, other)
	}
}

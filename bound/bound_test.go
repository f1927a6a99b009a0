package bound_test

import (
	"slices"
	"strings"
	"testing"

	"furlong/api"
	"furlong/bound"
)

// of is the bound between two texts.
func of(from, to string) api.Bound {
	return api.Bound{From: from, To: to}
}

// a is a text of n bytes.
func a(n int) string {
	return strings.Repeat("a", n)
}

// texts are all texts of at most n of the letters, rising: letters that lie at
// both ends of the bytes, and next to one another.
func texts(n int) []string {
	const letters = "\x00ab\xff"
	all := []string{""}
	for from := 0; n > 0; n-- {
		to := len(all)
		for _, s := range all[from:to] {
			for _, c := range []byte(letters) {
				all = append(all, s+string([]byte{c}))
			}
		}
		from = to
	}
	slices.Sort(all)
	return all
}

// bounds are all bounds that may be, between the texts of ends, "" as a To
// among them.
func bounds(ends []string) []api.Bound {
	var l []api.Bound
	for _, from := range ends {
		for _, to := range ends {
			if to == "" || to > from {
				l = append(l, of(from, to))
			}
		}
	}
	return l
}

// wrong are bounds that may not be.
func wrong() []api.Bound {
	return []api.Bound{
		of("a", "a"), of("b", "a"), of("a", "\x00"), of("\x00", "\x00"), of("ab", "a"), of("a\x00", "a"), of("\xff", "\x7f"),
		of(a(33), a(33)), of(a(33), a(32)),
		of(a(34), ""), of(a(34), "b"), of("", a(34)), of("a", a(34)), of(a(34), a(35)), of(a(100000), ""), of("", a(100000)),
	}
}

// lies is what the chapter says of a text that lies in a bound.
func lies(b api.Bound, k string) bool {
	return !(k < b.From) && (b.To == "" || k < b.To)
}

func TestP2_1KeyHasOneToMaxKeyBytes(t *testing.T) {
	for _, k := range []string{"a", "\x00", "\xff", "\x01", "\xff\xfe", "\u00e9", a(31), a(32), strings.Repeat("\xff", 32), strings.Repeat("\u00e9", 16)} {
		if e := bound.Key(k); e != api.OK {
			t.Errorf("Key(%q): %d", k, e)
		}
	}
	for _, k := range []string{"", a(33), a(34), a(64), a(100000), strings.Repeat("\u00e9", 17), strings.Repeat("\x00", 33)} {
		if e := bound.Key(k); e != api.ErrBound {
			t.Errorf("Key(%.40q): %d", k, e)
		}
	}
}

func TestP2_1CheckTakesWhatMayBe(t *testing.T) {
	for _, b := range []api.Bound{
		{}, of("a", ""), of("", "a"), of("a", "b"), of("", "\x00"), of("a", "a\x00"), of("\x7f", "\x80"), of("a", "aa"), of("B", "a"),
		of(a(33), ""), of("", a(33)), of(a(32), a(33)), of(a(33), "b"), of(a(32)+"a", a(32)+"b"),
	} {
		if e := bound.Check(b); e != api.OK {
			t.Errorf("Check(%q): %d", b, e)
		}
	}
}

func TestP2_1CheckRefusesWhatMayNotBe(t *testing.T) {
	for _, b := range wrong() {
		if e := bound.Check(b); e != api.ErrBound {
			t.Errorf("Check(%.40q): %d", b, e)
		}
	}
}

func TestP2_2HasIsWhatLiesIn(t *testing.T) {
	for _, c := range []struct {
		b    api.Bound
		k    string
		want bool
	}{
		{api.Bound{}, "", true}, {api.Bound{}, "\xff", true}, {api.Bound{}, a(100), true},
		{of("a", "m"), "a", true}, {of("a", "m"), "a\x00", true}, {of("a", "m"), "l\xff\xff", true}, {of("a", "m"), a(100), true},
		{of("a", "m"), "m", false}, {of("a", "m"), "`\xff", false}, {of("a", "m"), "", false}, {of("a", "m"), "m\x00", false},
		{of("m", ""), "m", true}, {of("m", ""), "\xff\xff", true}, {of("m", ""), "l\xff", false}, {of("m", ""), "", false},
		{of("", "m"), "", true}, {of("", "m"), "\x00", true}, {of("", "m"), "m", false},
		{of("\x7f", "\x80"), "\x7f\xff", true}, {of("\x7f", "\x80"), "\x80", false}, {of("\x7f", "\xff"), "\x80", true},
	} {
		if got := bound.Has(c.b, c.k); got != c.want {
			t.Errorf("Has(%q, %q): %v", c.b, c.k, got)
		}
	}
	all := texts(3)
	for _, b := range bounds(texts(2)) {
		for _, k := range all {
			if got := bound.Has(b, k); got != lies(b, k) {
				t.Errorf("Has(%q, %q): %v", b, k, got)
			}
		}
	}
}

// A bound that may not be is no less the texts between its ends: there are
// none where they are turned round, but there are where they are too long.
func TestP2_2HasOfBoundsThatMayNotBe(t *testing.T) {
	for _, b := range wrong() {
		for _, k := range []string{"", "\x00", "a", "ab", "b", "\xff", a(33), a(34), a(35), a(100000)} {
			if got := bound.Has(b, k); got != lies(b, k) {
				t.Errorf("Has(%.40q, %.40q): %v", b, k, got)
			}
		}
	}
}

func TestP2_2MeetAndInsideAreWhatTheirTextsAre(t *testing.T) {
	all := texts(3)
	l := bounds(texts(2))
	lie := make([][]bool, len(l))
	for i, b := range l {
		for _, k := range all {
			lie[i] = append(lie[i], lies(b, k))
		}
	}
	for i, p := range l {
		for j, q := range l {
			meet, inside := false, true
			for n := range all {
				meet = meet || lie[i][n] && lie[j][n]
				inside = inside && (!lie[i][n] || lie[j][n])
			}
			if bound.Meet(p, q) != meet {
				t.Fatalf("Meet(%q, %q): %v", p, q, !meet)
			}
			if bound.Inside(p, q) != inside {
				t.Fatalf("Inside(%q, %q): %v", p, q, !inside)
			}
		}
	}
}

func TestP2_2MeetAndInsideAtTheirEdges(t *testing.T) {
	for _, c := range []struct {
		p, q         api.Bound
		meet, inside bool
	}{
		{of("a", "m"), of("m", "z"), false, false},
		{of("m", "z"), of("a", "m"), false, false},
		{of("a", "m\x00"), of("m", "z"), true, false},
		{of("a", "m"), of("a", "m"), true, true},
		{of("a", "m"), of("a", "m\x00"), true, true},
		{of("a", "m\x00"), of("a", "m"), true, false},
		{of("a", ""), of("a", ""), true, true},
		{of("a", ""), of("a", "\xff\xff"), true, false},
		{of("\xff", ""), of("a", "\xff"), false, false},
		{of("\xff", ""), of("a", "\xff\x00"), true, false},
		{of("b", "c"), of("", ""), true, true},
		{of("", ""), of("b", "c"), true, false},
		{of("b", "c"), of("a", ""), true, true},
		{of(a(33), ""), of(a(32), ""), true, true},
		{of(a(33), ""), of("", a(33)), false, false},
	} {
		if bound.Meet(c.p, c.q) != c.meet || bound.Inside(c.p, c.q) != c.inside {
			t.Errorf("of %q and %q: %v %v", c.p, c.q, bound.Meet(c.p, c.q), bound.Inside(c.p, c.q))
		}
	}
}

func TestP2_2MeetAndInsideOfBoundsThatMayNotBe(t *testing.T) {
	for _, w := range wrong() {
		for _, b := range append(wrong(), api.Bound{}, of("a", ""), of("", "b"), of("a", "b"), w) {
			if bound.Meet(w, b) || bound.Meet(b, w) {
				t.Errorf("Meet of %.40q and %.40q", w, b)
			}
			if bound.Inside(w, b) || bound.Inside(b, w) {
				t.Errorf("Inside of %.40q and %.40q", w, b)
			}
		}
	}
}

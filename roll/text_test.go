package roll_test

import (
	"math"
	"slices"
	"strconv"
	"strings"
	"testing"

	"furlong/api"
	"furlong/knot"
	"furlong/roll"
)

// strand is a text's strand.
func strand(s string) string {
	return strconv.Itoa(len(s)) + ":" + s + ","
}

// num is the strand of a number.
func num(n int64) string {
	return strand(strconv.FormatInt(n, 10))
}

// text is the text that the chapter says of a roll.
func text(r api.Roll) string {
	var b strings.Builder
	b.WriteString(num(r.Base) + num(r.BaseTerm))
	for _, e := range r.Entries {
		b.WriteString(num(e.Term) + strand(e.Text))
	}
	return b.String()
}

func TestP11_5PutIsTheKnotOfEach(t *testing.T) {
	for _, c := range []struct {
		r    api.Roll
		want string
	}{
		{api.Roll{}, "1:0,1:0,"},
		{api.Roll{Entries: []api.Entry{}}, "1:0,1:0,"},
		{of(7, 3), "1:7,1:3,"},
		{of(7, 3, 4), "1:7,1:3,1:4,2:r0,"},
		{some(), "1:5,1:2,1:2,2:r0,1:2,2:r1,1:3,2:r2,1:5,2:r3,"},
		{api.Roll{Entries: []api.Entry{{Term: 1}}}, "1:0,1:0,1:1,0:,"},
		{api.Roll{Entries: []api.Entry{{Term: 10, Text: "1:a,\x00"}}}, "1:0,1:0,2:10,5:1:a,\x00,"},
		{of(maxIndex, maxTerm), "13:1099511627776,13:1099511627776,"},
		{of(-1, math.MinInt64, math.MaxInt64), "2:-1,20:-9223372036854775808,19:9223372036854775807,2:r0,"},
	} {
		if got := roll.Put(c.r); got != c.want {
			t.Errorf("Put of %s: %q, not %q", show(c.r), got, c.want)
		}
	}
	for _, c := range slices.Concat(right(), wrong(), great()) {
		in := roomy(c.r)
		if got := roll.Put(in); got != text(c.r) {
			t.Errorf("%s: Put: %.200q", c.name, got)
		}
		untouched(t, c.name, in.Entries, c.r.Entries)
	}
}

// parses holds what a text is parsed to against what it should be.
func parses(t *testing.T, what, s string, want api.Roll) {
	t.Helper()
	for range 2 {
		got, e := roll.Parse(s)
		if e != api.OK || !equal(got, want) {
			t.Errorf("%s: %s %d, not %s", what, show(got), e, show(want))
		}
		// What becomes of the answer is nothing to the next one.
		scribble(got.Entries)
	}
}

func TestP11_5ParseIsTheRollOfPut(t *testing.T) {
	for _, c := range append(right(), great()...) {
		parses(t, c.name, text(c.r), c.r)
		parses(t, c.name, roll.Put(c.r), c.r)
	}
	parses(t, "nothing", "1:0,1:0,", api.Roll{})
	parses(t, "a base", "1:7,1:3,", of(7, 3))
	parses(t, "one", "1:7,1:3,1:4,2:r0,", of(7, 3, 4))
}

// refuses fails, if a text is taken for a roll's.
func refuses(t *testing.T, s string) {
	t.Helper()
	if got, e := roll.Parse(s); e != api.ErrRoll || !equal(got, api.Roll{}) {
		t.Errorf("Parse of %.200q: %s %d", s, show(got), e)
	}
}

func TestP11_5ParseRefusesWhatMayNotBe(t *testing.T) {
	for _, c := range wrong() {
		refuses(t, text(c.r))
	}
}

func TestP11_5ParseRefusesWhatIsNoKnot(t *testing.T) {
	for _, s := range []string{
		":", ",", "x", "1", "1:", "0:", "1:5", "1:5,1", "1:5,1:", "1:5,1:2", "1:5,1:2;", "1:5;1:2,", "1:5,1:2,x", "1:5,1:2,,", " 1:5,1:2,", "1:5, 1:2,", "1:5,1:2,\n",
		"01:5,1:2,", "1:5,01:2,", "+1:5,1:2,", "-1:5,1:2,", "1:5,1:2,1:2,-0:,", "1:5,1:2,1:2,00:,", "1:5,1:2,1:2,-1:,", "1:5,1:2,1:2,-2:r0,", "2:5,1:2,", "1:5,2:2,", "1:5,0:2,",
		"1:5,1:2,1:2,2:r0", "1:5,1:2,1:2,2:r0;", "1:5,1:2,1:2,3:r0,", "1:5,1:2,1:2,1:r0,", "1:5,1:2,1:2,4:r0,,", "1:5,1:2,1:2,0:r0,", "1:5,1:2,1:2,:r0,", "1:5,1:2,1:2,x:r0,",
		"1:5,1:2,1:2,9223372036854775807:r0,", "1:5,1:2,1:2,9223372036854775808:r0,", "1:5,1:2,1:2,18446744073709551618:r0,", "1:5,1:2,1:2,-9223372036854775808:r0,",
		"1:5,1:2,1:2,4294967298:r0,", "1:5,1:2,1:2,99999999999999999999999:r0,", "1:5,1:2,1:2,0x2:r0,", "1:5,1:2,1:2,2 :r0,",
		strings.Repeat("1", 100000), strings.Repeat(":", 100000), strings.Repeat(",", 100000), "1:5,1:2," + strings.Repeat("1:", 100000),
	} {
		refuses(t, s)
	}
}

func TestP11_5ParseRefusesNotJustThoseStrands(t *testing.T) {
	parts := []string{"5", "2", "2", "r0", "2", "r1", "3", "r2", "5", "r3"}
	for n := range len(parts) + 1 {
		s := knot.Tie(parts[:n]...)
		if n >= 2 && n%2 == 0 {
			want := some()
			want.Entries = want.Entries[:n/2-1]
			parses(t, "some of them", s, want)
			refuses(t, s+"1:9")
			continue
		}
		refuses(t, s)
	}
	refuses(t, "")
	for i := range parts {
		// One is missing: what stands behind it is at another one's place.
		refuses(t, knot.Tie(slices.Delete(slices.Clone(parts), i, i+1)...))
		// One stands there twice.
		refuses(t, knot.Tie(slices.Insert(slices.Clone(parts), i, parts[i])...))
		// One is a text without strands.
		if i < 2 || i%2 == 0 {
			parts := slices.Clone(parts)
			parts[i] = ""
			refuses(t, knot.Tie(parts...))
		}
	}
	whole := knot.Tie(parts...)
	for n := range len(whole) {
		if got, e := roll.Parse(whole[:n]); e == api.OK && text(got) != whole[:n] {
			t.Errorf("Parse of %q: %s", whole[:n], show(got))
		}
	}
}

func TestP11_5ParseRefusesWhatIsNoNumber(t *testing.T) {
	parts := []string{"0", "0", "0", "r0", "0", "r1"}
	parses(t, "all 0", knot.Tie(parts...), of(0, 0, 0, 0))
	for _, bad := range []string{
		"", " ", "x", "00", "01", "-0", "+0", "+1", "-1", " 0", "0 ", "0,", "0.0", "1e1", "0x1", "1_0", "\x00", "0\x00", "-", "+", "1:0,", "\u0660",
		"-9223372036854775808", "-9223372036854775809", "9223372036854775807", "9223372036854775808", "18446744073709551616", "18446744073709551617",
		"1099511627777", "00000000000000000000001", "99999999999999999999999999",
	} {
		for _, i := range []int{0, 1, 2, 4} {
			l := slices.Clone(parts)
			l[i] = bad
			refuses(t, knot.Tie(l...))
			if i < 2 {
				refuses(t, knot.Tie(l[:2]...))
			}
		}
	}
}

// Whichever byte of a text is another one: there is no roll, or another one,
// whose text that is.
func TestP11_5OneOtherByte(t *testing.T) {
	for _, r := range []api.Roll{some(), of(0, 0), of(10, 9, 9, 10), {Base: 3, BaseTerm: 1, Entries: []api.Entry{{Term: 1, Text: "1:a,"}, {Term: 1}}}} {
		b := []byte(text(r))
		for i, was := range b {
			for turn := 1; turn < 256; turn++ {
				b[i] = was ^ byte(turn)
				got, e := roll.Parse(string(b))
				if e == api.OK && (text(got) != string(b) || roll.Check(got) != api.OK) || e != api.OK && (e != api.ErrRoll || !equal(got, api.Roll{})) {
					t.Fatalf("Parse of %q: %s %d", b, show(got), e)
				}
			}
			b[i] = was
		}
	}
}

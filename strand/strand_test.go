package strand_test

import (
	"slices"
	"strings"
	"testing"

	"furlong/api"
	"furlong/knot"
	"furlong/strand"
)

// finds holds what All finds in a text against what it should.
func finds(t *testing.T, s string, want ...string) {
	t.Helper()
	for range 2 {
		l, whole := strand.All(s)
		if !whole || !slices.Equal(l, want) {
			t.Errorf("All(%.200q): %.200q %t, not %.200q", s, l, whole, want)
		}
		// What becomes of the answer is nothing to the next one.
		for i := range l {
			l[i] = "spoilt"
		}
	}
}

// refuses fails, if a text is taken for strands.
func refuses(t *testing.T, s string) {
	t.Helper()
	if l, whole := strand.All(s); whole || l != nil {
		t.Errorf("All(%.200q): %.200q %t", s, l, whole)
	}
}

func TestAllIsTheTextsOfTie(t *testing.T) {
	for _, l := range [][]string{
		nil, {""}, {"a"}, {"", ""}, {"ab", ""}, {"", "ab"}, {"1:a,"}, {":", ",", "0:,", "\x00\xff"}, {strings.Repeat("x", 1234), "y"},
	} {
		finds(t, knot.Tie(l...), l...)
	}
	finds(t, "")
	finds(t, "0:,", "")
	finds(t, "2:ab,0:,", "ab", "")
}

// Of a knot Untie takes no more than so many strands, or bytes.
func TestAllHasNoBound(t *testing.T) {
	for _, n := range []int{api.MaxStrands, api.MaxStrands + 1, 100000} {
		l := slices.Repeat([]string{"ab", ""}, n)[:n]
		finds(t, knot.Tie(l...), l...)
	}
	for _, n := range []int{api.MaxKnot - 9, api.MaxKnot, api.MaxKnot + 1, 10 * api.MaxKnot} {
		finds(t, knot.Tie("a", strings.Repeat(":", n), "b"), "a", strings.Repeat(":", n), "b")
	}
}

func TestAllRefusesWhatIsNoStrands(t *testing.T) {
	for _, s := range []string{
		"a", "0", "1", "-", ":", ",", ":,", "\x00", " ", "0:", "0,", "1:", "1:a", "1:,", "1:ab", "1:a;", "2:a,", "1:ab,", "1:a,,", "1:a,b", "1:a,1", "1:a,1:", "1:a,1:b", "1:a,2:b,",
		" 1:a,", "1:a, ", "1 :a,", "+1:a,", "01:a,", "00:,", "-0:,", "-1:,", "-1:a,", "x:a,", "1x:a,", "0x1:a,", "1.0:a,", "1:a,01:b,",
		"9223372036854775807:a,", "9223372036854775806:a,", "9223372036854775808:a,", "-9223372036854775808:a,", "18446744073709551617:a,", "4294967297:a,",
		strings.Repeat("1", 100000), strings.Repeat("1:", 100000), strings.Repeat(",", 100000), strings.Repeat("0:,", 100000) + "x",
	} {
		refuses(t, s)
		refuses(t, "3:xyz,"+s)
	}
}

// Whatever a text has: what is found in it has just this text.
func TestAllOfTextsThatAreNearlyStrands(t *testing.T) {
	for _, s := range []string{"2:ab,0:,", "0:,", "11:0:,1:a,1:b,,1:,,", "3:1:a,1:b,"} {
		for i := range s {
			for b := range 256 {
				for _, near := range []string{s[:i] + string([]byte{byte(b)}) + s[i+1:], s[:i] + string([]byte{byte(b)}) + s[i:], s[:i] + s[i+1:]} {
					if l, whole := strand.All(near); whole && knot.Tie(l...) != near || !whole && l != nil {
						t.Fatalf("All(%q): %q %t", near, l, whole)
					}
				}
			}
		}
	}
}

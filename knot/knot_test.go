package knot_test

import (
	"math/rand/v2"
	"slices"
	"strconv"
	"strings"
	"testing"

	"furlong/api"
	"furlong/knot"
)

// strand is a text's strand as the chapter tells it.
func strand(s string) string {
	return strconv.Itoa(len(s)) + ":" + s + ","
}

// wide is a text whose strand has just n bytes, of which seven are digits.
func wide(n int) string {
	return strings.Repeat("x", n-len("1000000:,"))
}

func TestP1_2TieIsStrandsOneBehindTheOther(t *testing.T) {
	for _, c := range []struct {
		texts []string
		want  string
	}{
		{nil, ""},
		{[]string{}, ""},
		{[]string{""}, "0:,"},
		{[]string{"", ""}, "0:,0:,"},
		{[]string{"ab", ""}, "2:ab,0:,"},
		{[]string{"", "ab"}, "0:,2:ab,"},
		{[]string{"123456789"}, "9:123456789,"},
		{[]string{"1234567890"}, "10:1234567890,"},
		{[]string{"1:a,", ",", ":"}, "4:1:a,,1:,,1::,"},
		{[]string{"\u00e9\u20ac"}, "5:\u00e9\u20ac,"},
		{[]string{"\x00\xff", "\n"}, "2:\x00\xff,1:\n,"},
	} {
		if got := knot.Tie(c.texts...); got != c.want {
			t.Errorf("Tie(%q): %q, not %q", c.texts, got, c.want)
		}
	}
}

func TestP1_2TieHasNoBound(t *testing.T) {
	big := strings.Repeat("y", api.MaxKnot+1)
	if knot.Tie("a", big) != "1:a,"+strand(big) {
		t.Error("a text of more than MaxKnot bytes")
	}
	many := make([]string, api.MaxStrands+1)
	if knot.Tie(many...) != strings.Repeat("0:,", api.MaxStrands+1) {
		t.Error("more than MaxStrands texts")
	}
}

func TestP1_2TieLeavesItsTextsAlone(t *testing.T) {
	room := []string{"b", "a", "spare"}
	first := knot.Tie(room[:2]...)
	if second := knot.Tie(room[:2]...); first != second || !slices.Equal(room, []string{"b", "a", "spare"}) {
		t.Error(first, second, room)
	}
}

func TestP1_3UntieIsTheTexts(t *testing.T) {
	for s, want := range map[string][]string{
		"":                     nil,
		"0:,":                  {""},
		"2:ab,0:,":             {"ab", ""},
		"0:,0:,1:a,":           {"", "", "a"},
		"10:1234567890,":       {"1234567890"},
		"4:1:a,,1:,,1::,":      {"1:a,", ",", ":"},
		"2:\x00\xff,2:\u00e9,": {"\x00\xff", "\u00e9"},
	} {
		if l, e := knot.Untie(s); e != api.OK || !slices.Equal(l, want) {
			t.Errorf("Untie(%q): %q %d", s, l, e)
		}
	}
}

func TestP1_3UntieRefusesWhatNoKnotIs(t *testing.T) {
	for _, s := range []string{
		":", ",", ":,", "a", "1", "1:", "1:a", "1:,", "1a,", "1;a,", "1:a;", "1:a:", "2:a,", "0:a,", "1:ab,", "0:", "0,",
		"01:a,", "00:,", "-0:,", "-1:,", "-1:a,", "+1:a,", " 1:a,", "1 :a,", "1:a, ", "1:a,\n", "x:a,", "0x1:a,",
		"1:a,,", "1:a,1", "1:a,1:", "1:a,1:b", "1:a,2:b,", "1:a,x", "0:,0:,:,", "1:a,01:b,", "1:a, 1:b,",
		"9223372036854775807:a,", "9223372036854775806:a,", "9223372036854775808:a,", "18446744073709551617:a,",
		"-9223372036854775808:a,", "4294967297:a,", "99999999999999999999999:a,",
	} {
		if l, e := knot.Untie(s); len(l) != 0 || e != api.ErrKnot {
			t.Errorf("Untie(%q): %q %d", s, l, e)
		}
	}
}

func TestP1_3UntieAtTheMostStrands(t *testing.T) {
	l, e := knot.Untie(strings.Repeat("1:a,", api.MaxStrands))
	if e != api.OK || len(l) != api.MaxStrands || l[0] != "a" || l[api.MaxStrands-1] != "a" {
		t.Error(len(l), e)
	}
	if l, e := knot.Untie(strings.Repeat("1:a,", api.MaxStrands+1)); len(l) != 0 || e != api.ErrKnot {
		t.Error(len(l), e)
	}
}

func TestP1_3UntieAtTheMostBytes(t *testing.T) {
	full := strand(wide(api.MaxKnot))
	if len(full) != api.MaxKnot {
		t.Fatal(len(full))
	}
	if l, e := knot.Untie(full); e != api.OK || len(l) != 1 || l[0] != wide(api.MaxKnot) {
		t.Error(len(l), e)
	}
	if l, e := knot.Untie(strand(wide(api.MaxKnot + 1))); len(l) != 0 || e != api.ErrKnot {
		t.Error("one strand of a byte too many:", len(l), e)
	}
	// Each strand lies within its bound here: only the whole text does not.
	if l, e := knot.Untie("0:," + strand(wide(api.MaxKnot-3))); e != api.OK || len(l) != 2 {
		t.Error("two strands:", len(l), e)
	}
	if l, e := knot.Untie("0:," + strand(wide(api.MaxKnot-2))); len(l) != 0 || e != api.ErrKnot {
		t.Error("two strands of a byte too many:", len(l), e)
	}
}

func TestP1_3UntieAnswersNewListsEachTime(t *testing.T) {
	const s = "1:a,1:b,1:c,"
	l, _ := knot.Untie(s)
	l[0], l[1] = "x", "y"
	_ = append(l, "z")
	if again, e := knot.Untie(s); e != api.OK || !slices.Equal(again, []string{"a", "b", "c"}) {
		t.Error(again, e)
	}
}

func TestP1_3FirstIsTheFirstStrand(t *testing.T) {
	for _, c := range [][3]string{
		{"0:,", "", ""},
		{"1:a,", "a", ""},
		{"1:a,rest", "a", "rest"},
		{"2:ab,0:,", "ab", "0:,"},
		{"0:,,", "", ","},
		{"3:a:,,1", "a:,", "1"},
		{"10:1234567890,1:", "1234567890", "1:"},
		{"2:\u00e9,\xff", "\u00e9", "\xff"},
	} {
		if text, rest, e := knot.First(c[0]); text != c[1] || rest != c[2] || e != api.OK {
			t.Errorf("First(%q): %q %q %d", c[0], text, rest, e)
		}
	}
}

func TestP1_3FirstRefusesWhatBeginsWithNoStrand(t *testing.T) {
	for _, s := range []string{
		"", ":", ",", ":,", "1", "1:", "1:a", "1:a;", "1:ab,", "2:a,", "01:a,", "-1:,", "-0:,", "+1:a,", " 1:a,", "rest1:a,",
		"9223372036854775807:a,", "9223372036854775806:a,", "-9223372036854775808:a,", "18446744073709551617:a,",
	} {
		if text, rest, e := knot.First(s); text != "" || rest != s || e != api.ErrKnot {
			t.Errorf("First(%q): %q %q %d", s, text, rest, e)
		}
	}
}

func TestP1_3FirstWithinTheMostBytes(t *testing.T) {
	behind := strings.Repeat("1:b,", api.MaxKnot/2)
	if text, rest, e := knot.First("1:a," + behind); text != "a" || rest != behind || e != api.OK {
		t.Error("what stands behind has a bound:", len(text), len(rest), e)
	}
	full := wide(api.MaxKnot)
	if text, rest, e := knot.First(strand(full) + behind); text != full || rest != behind || e != api.OK {
		t.Error("a strand of MaxKnot bytes:", len(text), len(rest), e)
	}
	long := strand(wide(api.MaxKnot + 1))
	for _, s := range []string{long, long + behind, strings.Repeat("1", api.MaxKnot) + ":a,"} {
		if text, rest, e := knot.First(s); text != "" || rest != s || e != api.ErrKnot {
			t.Error("a strand of more than MaxKnot bytes:", len(text), len(rest), e)
		}
	}
}

// texts are lists of short texts that look much like knots themselves.
func texts(r *rand.Rand) []string {
	const letters = "0123456789:,-a\x00\xff"
	l := make([]string, r.IntN(6))
	for i := range l {
		b := make([]byte, r.IntN(14))
		for j := range b {
			b[j] = letters[r.IntN(len(letters))]
		}
		l[i] = string(b)
	}
	return l
}

func TestP1_5UntieOfTieIsTheTexts(t *testing.T) {
	r := rand.New(rand.NewPCG(1, 5))
	for range 5000 {
		want := texts(r)
		s := knot.Tie(want...)
		if l, e := knot.Untie(s); e != api.OK || !slices.Equal(l, want) {
			t.Fatalf("Untie of Tie of %q: %q %d", want, l, e)
		}
		for i, w := range want {
			text, rest, e := knot.First(s)
			if text != w || rest != knot.Tie(want[i+1:]...) || e != api.OK {
				t.Fatalf("First of Tie of %q: %q %q %d", want[i:], text, rest, e)
			}
			s = rest
		}
	}
}

// Whatever is a knot is the Tie of what it is untied to: no second text means
// the same.
func TestP1_5EachKnotIsWrittenOneWay(t *testing.T) {
	r := rand.New(rand.NewPCG(2, 5))
	for range 20000 {
		b := []byte(knot.Tie(texts(r)...))
		if len(b) == 0 {
			continue
		}
		b[r.IntN(len(b))] = "019:,-+ "[r.IntN(8)]
		if l, e := knot.Untie(string(b)); e == api.OK && knot.Tie(l...) != string(b) {
			t.Fatalf("Untie(%q): %q", b, l)
		}
	}
}

package knot_test

import (
	"math"
	"strconv"
	"strings"
	"testing"

	"furlong/api"
	"furlong/knot"
)

// numbers are those at which the count of digits, or the sign, turns.
func numbers() []int64 {
	l := []int64{0, math.MaxInt64, math.MaxInt64 - 1, math.MinInt64, math.MinInt64 + 1, 1 << 31, 1 << 32, 1 << 40, 1 << 62}
	for n := int64(1); n <= math.MaxInt64/10; n *= 10 {
		l = append(l, n, -n, n-1, 1-n, 7*n, -3*n)
	}
	return l
}

func TestP1_1NumIsDecimalDigits(t *testing.T) {
	for n, want := range map[int64]string{
		0: "0", 7: "7", -7: "-7", 10: "10", 100: "100", -100: "-100", 1234567890: "1234567890",
		math.MaxInt64: "9223372036854775807", math.MinInt64: "-9223372036854775808",
	} {
		if got := knot.Num(n); got != want {
			t.Errorf("Num(%d): %q, not %q", n, got, want)
		}
	}
	for _, n := range numbers() {
		if got, want := knot.Num(n), strconv.FormatInt(n, 10); got != want {
			t.Errorf("Num(%d): %q, not %q", n, got, want)
		}
	}
}

func TestP1_1IntIsTheNumberOfNum(t *testing.T) {
	for _, n := range numbers() {
		if got, e := knot.Int(strconv.FormatInt(n, 10)); got != n || e != api.OK {
			t.Errorf("Int of %d: %d %d", n, got, e)
		}
	}
}

func TestP1_1IntRefusesWhatNoNumberIs(t *testing.T) {
	for _, s := range []string{
		"", "-", "+", "--1", "1-", "-0", "+0", "+1", "00", "007", "-01", "-00",
		" 1", "1 ", "\t1", "1\n", "1\x00", "\x001", "1a", "a", "0x1", "0b1", "1_000", "1.0", "1e3",
		"\u0661", "\uff11", "\xff",
		"9223372036854775808", "-9223372036854775809", "18446744073709551616", "-18446744073709551616",
		"09223372036854775807", "10000000000000000000", "99999999999999999999", "100000000000000000000",
		strings.Repeat("0", 100) + "1", strings.Repeat("9", 100000),
	} {
		if n, e := knot.Int(s); n != 0 || e != api.ErrKnot {
			t.Errorf("Int(%.40q): %d %d", s, n, e)
		}
	}
}

// Of all short texts of some bytes just those are numbers that a number's
// digits are.
func TestP1_1IntOfAllShortTexts(t *testing.T) {
	want := map[string]int64{}
	for n := int64(-999); n <= 9999; n++ {
		want[strconv.FormatInt(n, 10)] = n
	}
	const letters = "019-+ a."
	texts := []string{""}
	for range 4 {
		var longer []string
		for _, s := range texts {
			for _, c := range []byte(letters) {
				longer = append(longer, s+string(c))
			}
		}
		for _, s := range longer {
			n, e := knot.Int(s)
			if w, is := want[s]; is && (n != w || e != api.OK) || !is && (n != 0 || e != api.ErrKnot) {
				t.Errorf("Int(%q): %d %d", s, n, e)
			}
		}
		texts = longer
	}
}

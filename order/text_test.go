package order_test

import (
	"math"
	"slices"
	"strconv"
	"strings"
	"testing"

	"furlong/api"
	"furlong/knot"
	"furlong/order"
)

// swap is an order that has a text in nearly each of its strands.
func swap() api.Order {
	return api.Order{Kind: api.OrSwap, Client: 3, Seq: 5, Key: "k", Value: "v", Old: "w", Has: true}
}

// parts are the strands of swap's text.
func parts() []string {
	return []string{"4", "3", "5", "k", "", "v", "w", "1", "0", "0", "0"}
}

// refuses fails, if a text is taken for an order's.
func refuses(t *testing.T, s string) {
	t.Helper()
	got, e := order.Parse(s)
	wantsOrder(t, "Parse of "+show(s), got, e, api.Order{}, api.ErrOrder)
}

func TestP7_2PutIsTheKnotOfAllFields(t *testing.T) {
	for _, c := range []struct {
		o    api.Order
		want string
	}{
		{api.Order{}, "1:0,1:0,1:0,0:,0:,0:,0:,1:0,1:0,1:0,1:0,"},
		{swap(), "1:4,1:3,1:5,1:k,0:,1:v,1:w,1:1,1:0,1:0,1:0,"},
		{api.Order{Kind: 5, Client: 1, Seq: maxSeq, Key: "a:", To: "b,", Limit: 100}, "1:5,1:1,13:1099511627776,2:a:,2:b,,0:,0:,1:0,3:100,1:0,1:0,"},
		{api.Order{Kind: 10, Client: 12, Seq: 10, Key: "a", Node: 7}, "2:10,2:12,2:10,1:a,0:,0:,0:,1:0,1:0,1:0,1:7,"},
		{
			api.Order{Kind: 1, Client: 2, Seq: 3, Key: "4", To: "5", Value: "6", Old: "7", Has: true, Limit: 8, Id: 9, Node: 10},
			"1:1,1:2,1:3,1:4,1:5,1:6,1:7,1:1,1:8,1:9,2:10,",
		},
		{
			api.Order{Kind: -1, Client: math.MinInt64, Seq: math.MaxInt64, Limit: math.MinInt, Id: -20, Node: math.MaxInt},
			"2:-1,20:-9223372036854775808,19:9223372036854775807,0:,0:,0:,0:,1:0,20:-9223372036854775808,3:-20,19:9223372036854775807,",
		},
	} {
		if got := order.Put(c.o); got != c.want {
			t.Errorf("Put of %s: %q, not %q", show(c.o), got, c.want)
		}
	}
	for _, c := range slices.Concat(rightOrders(), wrongOrders()) {
		if got := order.Put(c.o); got != text(c.o) {
			t.Errorf("%s: Put: %.200q", c.name, got)
		}
	}
}

func TestP7_2ParseIsTheOrderOfPut(t *testing.T) {
	for _, c := range rightOrders() {
		got, e := order.Parse(text(c.o))
		wantsOrder(t, c.name, got, e, c.o, api.OK)
	}
	got, e := order.Parse(knot.Tie(parts()...))
	wantsOrder(t, "Parse", got, e, swap(), api.OK)
}

func TestP7_2ParseRefusesWhatMayNotBe(t *testing.T) {
	for _, c := range wrongOrders() {
		refuses(t, text(c.o))
	}
}

func TestP7_2ParseRefusesWhatIsNoKnot(t *testing.T) {
	for _, o := range []api.Order{swap(), {}} {
		s := text(o)
		for _, bad := range []string{
			"", ",", ":", "1", "a", "\x00", "0", strings.Repeat("a", 2000000), strings.Repeat("1:1,", 1<<19),
			s + ",", s + "0", s + " ", s + "1", s + "\x00", " " + s, "0" + s, "\n" + s, s + s,
			"+" + s, "-" + s, strings.Replace(s, ",", ";", 1), strings.Replace(s, "0:,", ":,", 1), strings.Replace(s, "0:,", "00:,", 1),
			strings.Replace(s, "0:,", "1:,", 1), strings.Replace(s, "0:,", "-1:,", 1), strings.ReplaceAll(s, ",", ""), strings.ReplaceAll(s, ":", ""),
			knot.Seal(s), knot.Tie(s), knot.Tie(s, ""), strings.ReplaceAll(s, ",", ", "),
		} {
			refuses(t, bad)
		}
		for i := range s {
			refuses(t, s[:i])
			refuses(t, s[i+1:])
		}
	}
}

func TestP7_2ParseRefusesStrandsTooFewOrTooMany(t *testing.T) {
	zero := slices.Repeat([]string{"0"}, 11)
	for _, i := range []int{3, 4, 5, 6} {
		zero[i] = ""
	}
	for _, l := range [][]string{parts(), zero} {
		if got, e := order.Parse(knot.Tie(l...)); e != api.OK {
			t.Errorf("Parse of %q: %+v %d", l, got, e)
		}
		for i := range l {
			refuses(t, knot.Tie(l[:i]...))
			refuses(t, knot.Tie(l[i+1:]...))
			refuses(t, knot.Tie(slices.Delete(slices.Clone(l), i, i+1)...))
		}
		for i := 0; i <= len(l); i++ {
			for _, more := range []string{"", "0", "1", "k"} {
				refuses(t, knot.Tie(slices.Insert(slices.Clone(l), i, more)...))
				refuses(t, knot.Tie(slices.Insert(slices.Clone(l), i, more, more)...))
			}
		}
		for _, n := range []int{11, 100, 4085, 4086, 5000} {
			refuses(t, knot.Tie(slices.Concat(l, slices.Repeat([]string{"0"}, n))...))
			refuses(t, knot.Tie(slices.Concat(l, make([]string, n))...))
		}
	}
}

// otherSpellings are texts that a number's is nearly, or that are no number.
func otherSpellings(n string) []string {
	return []string{
		"", "a", "-", "+", "+" + n, "-" + n, "0" + n, "00" + n, " " + n, n + " ", n + "\n", n + "\x00", n + ".0", n + "a", "0x" + n, "0b" + n, "1_" + n, "-0", "1e1",
		"99999999999999999999", "18446744073709551616", "18446744073709551617", "9223372036854775808", "-9223372036854775809", "\u0661", "\xff", strings.Repeat("9", 10000),
	}
}

// numberPlaces are the strands of an order's text that are numbers.
func numberPlaces() []int {
	return []int{0, 1, 2, 8, 9, 10}
}

func TestP7_2ParseRefusesANumberThatIsNone(t *testing.T) {
	for kind := api.OrNone; kind <= api.OrMeta; kind++ {
		l, _ := knot.Untie(text(base(kind)))
		for _, i := range numberPlaces() {
			for _, bad := range otherSpellings(l[i]) {
				if bad == l[i] {
					t.Fatal(bad)
				}
				near := slices.Clone(l)
				near[i] = bad
				refuses(t, knot.Tie(near...))
			}
		}
	}
}

// Numbers that would come out as the right ones, if they were cut off.
func TestP7_2ParseRefusesANumberThatWraps(t *testing.T) {
	for kind := api.OrNone; kind <= api.OrMeta; kind++ {
		l, _ := knot.Untie(text(base(kind)))
		for _, i := range numberPlaces() {
			n, err := strconv.ParseInt(l[i], 10, 64)
			if err != nil {
				t.Fatal(err)
			}
			// A Client, a Seq and an Id may be greater by 2^16 or 2^32.
			by := []int64{math.MinInt64, -1 << 32, -1 << 16, -1 << 8, 1 << 62, 1 << 44}
			if i == 0 || i == 8 || i == 10 {
				by = append(by, 1<<8, 1<<16, 1<<32)
			}
			for _, d := range by {
				near := slices.Clone(l)
				near[i] = strconv.FormatInt(n+d, 10)
				refuses(t, knot.Tie(near...))
			}
		}
	}
}

func TestP7_2ParseRefusesAHasThatIsNeither(t *testing.T) {
	for _, bad := range []string{"", "2", "-1", "-0", "00", "01", "10", "11", "+1", "+0", " 1", "1 ", "0 ", "\x00", "\x01", "t", "true", "false", "y", "\xb1", a(100)} {
		for kind := api.OrNone; kind <= api.OrMeta; kind++ {
			l, _ := knot.Untie(text(base(kind)))
			l[7] = bad
			refuses(t, knot.Tie(l...))
		}
		l := parts()
		l[7] = bad
		refuses(t, knot.Tie(l...))
		l[6] = ""
		refuses(t, knot.Tie(l...))
	}
	for _, has := range []string{"0", "1"} {
		l := parts()
		l[6], l[7] = "", has
		got, e := order.Parse(knot.Tie(l...))
		wantsOrder(t, "Parse", got, e, with(swap(), func(o *api.Order) { o.Old, o.Has = "", has == "1" }), api.OK)
	}
}

// Whatever a text has: what is found in it may be, and has just this text.
func TestP7_2ParseOfTextsThatAreNearlyRight(t *testing.T) {
	for kind := api.OrNone; kind <= api.OrMeta; kind++ {
		s := text(base(kind))
		for i := range s {
			for _, b := range []byte("\x00,-:0123456789ak\xff") {
				for _, near := range []string{s[:i] + string([]byte{b}) + s[i+1:], s[:i] + string([]byte{b}) + s[i:], s[:i] + s[i+1:]} {
					o, e := order.Parse(near)
					if e == api.OK && (order.Check(o) != api.OK || text(o) != near) || e != api.OK && (e != api.ErrOrder || o != api.Order{}) {
						t.Fatalf("Parse(%q): %+v %d", near, o, e)
					}
				}
			}
		}
	}
}

func TestP7_5ParseOfPutIsTheOrder(t *testing.T) {
	for _, c := range rightOrders() {
		got, e := order.Parse(order.Put(c.o))
		wantsOrder(t, c.name, got, e, c.o, api.OK)
	}
}

func TestP7_5UnlikeOrdersHaveUnlikeTexts(t *testing.T) {
	texts := map[string]api.Order{}
	for _, c := range slices.Concat(rightOrders(), wrongOrders()) {
		s := order.Put(c.o)
		if o, there := texts[s]; there && o != c.o {
			t.Errorf("%s: %s and %s have one text", c.name, show(o), show(c.o))
		}
		texts[s] = c.o
	}
	// What two fields have, the other way round, or all in one of them.
	all := map[string]int{}
	n := 0
	for _, l := range [][4]string{
		{"a", "b", "c", "d"}, {"b", "a", "c", "d"}, {"a", "c", "b", "d"}, {"a", "b", "d", "c"}, {"d", "b", "c", "a"},
		{"ab", "", "c", "d"}, {"", "ab", "c", "d"}, {"abcd", "", "", ""}, {"", "abcd", "", ""}, {"", "", "abcd", ""}, {"", "", "", "abcd"}, {"", "", "", ""},
		{"a,1:b", "c", "d", ""}, {"a,1:b,1:c", "d", "", ""}, {"a", "b,1:c", "d", ""},
	} {
		for _, m := range [][5]int{{0, 0, 0, 0, 0}, {1, 0, 0, 0, 0}, {0, 1, 0, 0, 0}, {0, 0, 1, 0, 0}, {0, 0, 0, 1, 0}, {0, 0, 0, 0, 1}, {1, 1, 1, 1, 1}, {-1, 0, 0, 0, 0}, {0, -1, 0, 0, 0}, {0, 0, -1, 0, 0}, {0, 0, 0, -1, 0}, {0, 0, 0, 0, -1}} {
			for _, has := range []bool{false, true} {
				all[order.Put(api.Order{
					Kind: 1, Key: l[0], To: l[1], Value: l[2], Old: l[3], Has: has,
					Client: int64(m[0]), Seq: int64(m[1]), Limit: m[2], Id: int64(m[3]), Node: m[4],
				})]++
				n++
			}
		}
	}
	if len(all) != n {
		t.Errorf("%d orders have %d texts", n, len(all))
	}
}

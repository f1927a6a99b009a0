package deed_test

import (
	"math"
	"math/rand/v2"
	"slices"
	"strconv"
	"strings"
	"testing"

	"furlong/api"
	"furlong/deed"
)

// spots are texts at, around, and between the keys of some.
func spots() []string {
	return []string{
		"", "\x00", "a", "b\xff", "c", "c\x00", "f\xff", "g", "g\x00", "g\x01", "h", "l\xff", "m", "m\x00", "n", "o", "o\xfe", "o\xff", "o\xff\x00", "o\xff\xff", "p", "p\x00", "z", "\xff", a(32), a(33), "g" + a(100000),
	}
}

func TestP9_5GetIsTheKeysValue(t *testing.T) {
	for _, c := range right() {
		for _, x := range c.p.Pairs {
			if v, ok := deed.Get(c.p, x.Key); v != x.Value || !ok {
				t.Errorf("%s: Get(%q): %.40q %t", c.name, x.Key, v, ok)
			}
		}
		for _, k := range spots() {
			if slices.ContainsFunc(c.p.Pairs, func(x api.Pair) bool { return x.Key == k }) {
				continue
			}
			if v, ok := deed.Get(c.p, k); v != "" || ok {
				t.Errorf("%s: Get(%.40q): %.40q %t", c.name, k, v, ok)
			}
		}
	}
}

func TestP9_5GetOfOneOfMany(t *testing.T) {
	for n := range 40 {
		p := with(some(), func(p *api.Plot) { p.Pairs = nil })
		for i := range n {
			p.Pairs = append(p.Pairs, api.Pair{Key: "d" + string([]byte{byte(2 * i)}), Value: strconv.Itoa(i)})
		}
		for i := range 2*n + 2 {
			v, ok := deed.Get(p, "d"+string([]byte{byte(i)}))
			there := i%2 == 0 && i < 2*n
			if ok != there || there && v != strconv.Itoa(i/2) || !there && v != "" {
				t.Errorf("of %d, Get of place %d: %q %t", n, i, v, ok)
			}
		}
	}
}

func TestP9_5GetOfAnEmptyValue(t *testing.T) {
	p := with(some(), func(p *api.Plot) { p.Pairs[1].Value = "" })
	if v, ok := deed.Get(p, "g"); v != "" || !ok {
		t.Errorf("%q %t", v, ok)
	}
}

// done is p with a change done to its pairs, by a map.
func done(p api.Plot, c api.Change) api.Plot {
	all := map[string]api.Pair{}
	for _, x := range p.Pairs {
		all[x.Key] = x
	}
	if c.Gone {
		delete(all, c.Key)
	} else {
		all[c.Key] = api.Pair{Key: c.Key, Value: c.Value}
	}
	p = copied(p)
	p.Pairs = nil
	for _, x := range all {
		p.Pairs = append(p.Pairs, x)
	}
	slices.SortFunc(p.Pairs, func(x, y api.Pair) int { return strings.Compare(x.Key, y.Key) })
	return p
}

// sets holds Set against what it should be, and what was handed in against what
// it was.
func sets(t *testing.T, p api.Plot, c api.Change, want api.Plot) {
	t.Helper()
	in := roomy(p)
	got := deed.Set(in, c)
	wants(t, "Set of "+show(c)+" in "+show(p), got, api.OK, want, api.OK)
	alone(t, "Set", in, p, got)
}

func TestP9_5SetAtItsPlaces(t *testing.T) {
	for _, c := range []struct {
		change api.Change
		want   []api.Pair
	}{
		{api.Change{Key: "g", Value: "new"}, []api.Pair{{Key: "g", Value: "new"}, {Key: "m", Value: "vm"}}},
		{api.Change{Key: "m", Value: "new"}, []api.Pair{{Key: "g", Value: "vg"}, {Key: "m", Value: "new"}}},
		{api.Change{Key: "m"}, []api.Pair{{Key: "g", Value: "vg"}, {Key: "m"}}},
		{api.Change{Key: "d", Value: "new"}, []api.Pair{{Key: "d", Value: "new"}, {Key: "g", Value: "vg"}, {Key: "m", Value: "vm"}}},
		{api.Change{Key: "g\x00", Value: "new"}, []api.Pair{{Key: "g", Value: "vg"}, {Key: "g\x00", Value: "new"}, {Key: "m", Value: "vm"}}},
		{api.Change{Key: "o", Value: "new"}, []api.Pair{{Key: "g", Value: "vg"}, {Key: "m", Value: "vm"}, {Key: "o", Value: "new"}}},
		{api.Change{Key: "g", Gone: true}, []api.Pair{{Key: "m", Value: "vm"}}},
		{api.Change{Key: "m", Gone: true}, []api.Pair{{Key: "g", Value: "vg"}}},
		{api.Change{Key: "d", Gone: true}, []api.Pair{{Key: "g", Value: "vg"}, {Key: "m", Value: "vm"}}},
		{api.Change{Key: "h", Gone: true}, []api.Pair{{Key: "g", Value: "vg"}, {Key: "m", Value: "vm"}}},
		{api.Change{Key: "o", Gone: true}, []api.Pair{{Key: "g", Value: "vg"}, {Key: "m", Value: "vm"}}},
	} {
		p := with(some(), func(p *api.Plot) { p.Pairs = pairs("g", "m") })
		sets(t, p, c.change, with(p, func(p *api.Plot) { p.Pairs = c.want }))
	}
}

func TestP9_5SetOfAny(t *testing.T) {
	for _, c := range right() {
		for _, k := range spots() {
			for _, change := range []api.Change{{Key: k, Value: "new"}, {Key: k}, {Key: k, Gone: true}} {
				sets(t, c.p, change, done(c.p, change))
			}
		}
		for _, x := range c.p.Pairs {
			for _, change := range []api.Change{{Key: x.Key, Value: "new"}, {Key: x.Key}, {Key: x.Key, Value: x.Value}, {Key: x.Key, Gone: true}} {
				sets(t, c.p, change, done(c.p, change))
			}
		}
	}
}

// What a change that may not be comes to is told by the same words.
func TestP9_5SetOfAChangeThatMayNotBe(t *testing.T) {
	for _, k := range []string{"", "c", "g", "h", "p", "z", a(33), a(129), "g" + a(100000)} {
		for _, v := range []string{"v", a(513), a(1<<18 + 1)} {
			for _, change := range []api.Change{{Key: k, Value: v, Gone: true}, {Key: k, Value: v}} {
				sets(t, some(), change, done(some(), change))
			}
		}
	}
}

func TestP9_5SetOneByOne(t *testing.T) {
	rnd := rand.New(rand.NewPCG(9, 5))
	p := with(some(), func(p *api.Plot) { p.Pairs = nil })
	want := p
	for i := range 5000 {
		c := api.Change{Key: "d" + strconv.Itoa(rnd.IntN(60))}
		if rnd.IntN(2) == 0 {
			c.Value = strconv.Itoa(i)
		} else {
			c.Gone = rnd.IntN(2) == 0
		}
		p, want = deed.Set(p, c), done(want, c)
		if !equal(p, want) || deed.Check(p) != api.OK {
			t.Fatalf("change %d, %s: %s, not %s", i, show(c), show(p.Pairs), show(want.Pairs))
		}
	}
}

// scanned is what a scan comes to, by each pair's key.
func scanned(p api.Plot, from, to string, limit int) ([]api.Pair, string) {
	var l []api.Pair
	for _, x := range p.Pairs {
		if x.Key < from || to != "" && x.Key >= to {
			continue
		}
		if limit < 1 {
			return l, x.Key
		}
		limit--
		l = append(l, x)
	}
	return l, ""
}

// limits are limits of a scan, of some or of all.
func limits() []int {
	return []int{math.MinInt, -1 << 32, -2, -1, 0, 1, 2, 3, 4, 5, 6, 100, 101, 1 << 32, math.MaxInt}
}

func TestP9_5ScanOfAny(t *testing.T) {
	for _, c := range []named{{"some", some()}, {"frozen", with(some(), func(p *api.Plot) { p.Frozen = true })}, {"no pairs", with(some(), func(p *api.Plot) { p.Pairs = nil })}, {"one", with(some(), func(p *api.Plot) { p.Pairs = pairs("g") })}, {"beside", beside()}} {
		in := roomy(c.p)
		for _, from := range spots() {
			for _, to := range spots() {
				for _, limit := range limits() {
					got, next := deed.Scan(in, from, to, limit)
					want, wantNext := scanned(c.p, from, to, limit)
					if !slices.Equal(got, want) || next != wantNext {
						t.Fatalf("%s: Scan(%.40q, %.40q, %d): %s %q, not %s %q", c.name, from, to, limit, show(got), next, show(want), wantNext)
					}
					fill(got, api.Pair{Key: "scribble"})
				}
			}
		}
		alone(t, c.name, in, c.p)
	}
}

func TestP9_5ScanAtItsEdges(t *testing.T) {
	for _, c := range []struct {
		from, to string
		limit    int
		want     []string
		next     string
	}{
		{"", "", 4, []string{"c", "g", "m", "o\xff"}, ""},
		{"", "", 5, []string{"c", "g", "m", "o\xff"}, ""},
		{"", "", 3, []string{"c", "g", "m"}, "o\xff"},
		{"", "", 1, []string{"c"}, "g"},
		{"", "", 0, nil, "c"},
		{"", "", -1, nil, "c"},
		{"h", "", 0, nil, "m"},
		{"h", "m", 0, nil, ""},
		{"p", "", 0, nil, ""},
		{"g", "", 1, []string{"g"}, "m"},
		{"g\x00", "", 1, []string{"m"}, "o\xff"},
		{"f\xff", "", 1, []string{"g"}, "m"},
		{"c", "m", 2, []string{"c", "g"}, ""},
		{"c", "m\x00", 2, []string{"c", "g"}, "m"},
		{"c", "m\x00", 3, []string{"c", "g", "m"}, ""},
		{"c", "g", 1, []string{"c"}, ""},
		{"o\xff", "", 1, []string{"o\xff"}, ""},
		{"o\xff\x00", "", 1, nil, ""},
		{"g", "g", 9, nil, ""},
		{"m", "g", 9, nil, ""},
		{"z", "", 9, nil, ""},
	} {
		got, next := deed.Scan(some(), c.from, c.to, c.limit)
		if !slices.Equal(got, pairs(c.want...)) || next != c.next {
			t.Errorf("Scan(%q, %q, %d): %s %q, not %q %q", c.from, c.to, c.limit, show(got), next, c.want, c.next)
		}
	}
}

// From where a scan ended the next one goes on, so that each pair comes once.
func TestP9_5ScansOneBehindTheOther(t *testing.T) {
	p := with(some(), func(p *api.Plot) { p.Pairs = many(250, "v") })
	for limit := 1; limit < 300; limit++ {
		var all []api.Pair
		for from, more := "", true; more; more = from != "" {
			var l []api.Pair
			l, from = deed.Scan(p, from, "", limit)
			if len(l) > limit || from != "" && len(l) < limit {
				t.Fatalf("%d pairs of %d, and %q", len(l), limit, from)
			}
			all = append(all, l...)
		}
		if !slices.Equal(all, p.Pairs) {
			t.Fatalf("by %d: %s", limit, show(all))
		}
	}
}

// Of plots that may not be there is an answer, and they stay as they were.
func TestP9_5AnswersOfPlotsThatMayNotBe(t *testing.T) {
	for _, c := range wrong() {
		p := roomy(c.p)
		for _, k := range append(spots(), "d000001") {
			if v, ok := deed.Get(p, k); !ok && v != "" {
				t.Errorf("%s: %q beside false", c.name, v)
			}
			scribble(deed.Set(p, api.Change{Key: k, Value: "new"}))
			scribble(deed.Set(p, api.Change{Key: k, Gone: true}))
			for _, limit := range []int{math.MinInt, 0, 1, 3, math.MaxInt} {
				for _, to := range []string{"", "m", k} {
					l, _ := deed.Scan(p, k, to, limit)
					fill(l, api.Pair{})
				}
			}
		}
		alone(t, c.name, p, c.p)
	}
}

package order_test

import (
	"math"
	"strings"
	"testing"

	"furlong/api"
	"furlong/order"
)

// checks holds what Check says of an order against what it should say.
func checks(t *testing.T, name string, o api.Order, want api.Errno) {
	t.Helper()
	if got := order.Check(o); got != want {
		t.Errorf("%s: Check of %s: %d, not %d", name, show(o), got, want)
	}
}

func TestP7_1CheckOfOrdersThatMayBe(t *testing.T) {
	for _, c := range rightOrders() {
		checks(t, c.name, c.o, api.OK)
	}
}

func TestP7_1CheckOfOrdersThatMayNotBe(t *testing.T) {
	for _, c := range wrongOrders() {
		checks(t, c.name, c.o, api.ErrOrder)
	}
}

// Each kind's order may be, and may not with any other field that is not zero:
// these are looked at in just the fields that the table does not name.
func TestP7_1CheckRefusesAFieldOfOtherKinds(t *testing.T) {
	seen := map[int]int{}
	for _, c := range foreign() {
		seen[c.o.Kind]++
		checks(t, c.name, c.o, api.ErrOrder)
	}
	for kind := api.OrNone; kind <= api.OrMeta; kind++ {
		checks(t, "plain", base(kind), api.OK)
		if seen[kind] < 8 {
			t.Errorf("kind %d: %d fields", kind, seen[kind])
		}
	}
}

func TestP7_1CheckOfKindsThatThereAreNot(t *testing.T) {
	for _, kind := range noKinds() {
		for _, o := range []api.Order{
			{Kind: kind}, {Kind: kind, Client: 1, Seq: 1}, {Kind: kind, Client: 1, Seq: 1, Key: "a"}, {Kind: kind, Client: 1, Seq: 1, Key: "a", Id: 2},
			{Kind: kind, Client: 1, Seq: 1, Key: "a", Value: "v"}, {Kind: kind, Client: 1, Seq: 1, Key: "a", Limit: 1}, {Kind: kind, Client: 1, Seq: 1, Value: record, Limit: 1},
		} {
			checks(t, "no kind", o, api.ErrOrder)
		}
	}
}

func TestP7_1CheckOfNothing(t *testing.T) {
	checks(t, "nothing", api.Order{}, api.OK)
	for _, o := range []api.Order{
		{Client: 1}, {Seq: 1}, {Client: 1, Seq: 1}, {Client: maxSeq}, {Client: maxSeq + 1}, {Seq: maxSeq}, {Seq: maxSeq + 1}, {Client: -1}, {Seq: -1},
		{Key: "a"}, {Client: 1, Seq: 1, Key: "a"}, {To: "b"}, {Value: "v"}, {Old: "w"}, {Has: true}, {Limit: 1}, {Id: 2}, {Node: 1},
	} {
		checks(t, "OrNone", o, api.ErrOrder)
	}
}

// A split's key has one of the levels at which there may be ranges' ends,
// whatever stands behind its first byte.
func TestP7_1CheckOfASplitByItsKeysFirstByte(t *testing.T) {
	for c := range 256 {
		want := api.OK
		if c < 2 {
			want = api.ErrOrder
		}
		for _, behind := range []string{"", "\x00", "\x01", "\x02", "m", "\xff", a(31)} {
			o := with(base(api.OrSplit), func(o *api.Order) { o.Key = string([]byte{byte(c)}) + behind })
			checks(t, "a split", o, want)
		}
		long := with(base(api.OrSplit), func(o *api.Order) { o.Key = string([]byte{byte(c)}) + a(32) })
		checks(t, "a split", long, api.ErrOrder)
	}
}

func TestP7_1CheckOfEachLimit(t *testing.T) {
	for limit := -300; limit <= 300; limit++ {
		scan, meta := api.ErrOrder, api.ErrOrder
		if limit >= 1 && limit <= 100 {
			scan = api.OK
		}
		if limit == 1 || limit == 2 {
			meta = api.OK
		}
		checks(t, "a scan", with(base(api.OrScan), func(o *api.Order) { o.Limit = limit }), scan)
		checks(t, "a record", with(base(api.OrMeta), func(o *api.Order) { o.Limit = limit }), meta)
	}
}

// rule is what the chapter's table says of one field of a kind.
type rule func(o api.Order) bool

// between is the rule of a text of at least and at most so many bytes.
func between(least, most int, text func(o api.Order) string) rule {
	return func(o api.Order) bool { return len(text(o)) >= least && len(text(o)) <= most }
}

// table is the chapter's table: of each kind, the fields that it has.
func table() map[int]map[string]rule {
	key := between(1, 32, func(o api.Order) string { return o.Key })
	value := func(least, most int) rule {
		return between(least, most, func(o api.Order) string { return o.Value })
	}
	short := between(0, 64, func(o api.Order) string { return o.Old })
	return map[int]map[string]rule{
		1: {"Key": key}, 3: {"Key": key}, 8: {"Key": key}, 12: {"Key": key},
		2: {"Key": key, "Value": value(0, 64)},
		4: {"Key": key, "Value": value(0, 64), "Has": func(o api.Order) bool { return true }, "Old": func(o api.Order) bool {
			return short(o) && (o.Has || o.Old == "")
		}},
		5: {
			"Key":   between(0, 33, func(o api.Order) string { return o.Key }),
			"To":    func(o api.Order) bool { return o.To == "" || len(o.To) <= 33 && o.To > o.Key },
			"Limit": func(o api.Order) bool { return o.Limit >= 1 && o.Limit <= 100 },
		},
		6: {},
		7: {
			"Key": func(o api.Order) bool { return key(o) && o.Key[0] >= 2 },
			"Id":  func(o api.Order) bool { return o.Id >= 2 && o.Id <= 1<<40 },
		},
		9:  {"Key": key, "Value": value(1, 65536)},
		10: {"Key": key, "Node": func(o api.Order) bool { return o.Node >= 1 && o.Node <= 7 }},
		11: {"Key": key, "Id": func(o api.Order) bool { return o.Id >= 1 && o.Id <= 1<<40 }},
		13: {
			"Value": func(o api.Order) bool { return o.Value == record },
			"Limit": func(o api.Order) bool { return o.Limit == 1 || o.Limit == 2 },
		},
	}
}

// mayBe is what a table says of an order, whose Value is no other descriptor's
// text than record.
func mayBe(all map[int]map[string]rule, o api.Order) bool {
	if o.Kind == 0 {
		return o == api.Order{}
	}
	rules, there := all[o.Kind]
	if !there || o.Client < 1 || o.Client > 1<<40 || o.Seq < 1 || o.Seq > 1<<40 {
		return false
	}
	for _, f := range []struct {
		name string
		zero bool
	}{
		{"Key", o.Key == ""}, {"To", o.To == ""}, {"Value", o.Value == ""}, {"Old", o.Old == ""},
		{"Has", !o.Has}, {"Limit", o.Limit == 0}, {"Id", o.Id == 0}, {"Node", o.Node == 0},
	} {
		if holds, there := rules[f.name]; there && !holds(o) || !there && !f.zero {
			return false
		}
	}
	return true
}

// Orders of all kinds, with all that their fields may and may not be at once.
func TestP7_1CheckIsTheTable(t *testing.T) {
	all := table()
	right := map[int]int{}
	at := func(o api.Order) {
		want := api.ErrOrder
		if mayBe(all, o) {
			want = api.OK
			right[o.Kind]++
		}
		checks(t, "the table", o, want)
	}
	for kind := -1; kind <= 14; kind++ {
		for _, key := range []string{"", "b", "\x01", "\x02b", a(32), a(33), a(34)} {
			for _, to := range []string{"", "b", "c"} {
				for _, value := range []string{"", "v", record, a(65)} {
					for _, old := range []string{"", "w", a(65)} {
						for _, has := range []bool{false, true} {
							for _, limit := range []int{0, 1, 3} {
								for _, id := range []int64{0, 1, 2, -1} {
									for _, node := range []int{0, 1, 8} {
										at(api.Order{Kind: kind, Client: 1, Seq: 1, Key: key, To: to, Value: value, Old: old, Has: has, Limit: limit, Id: id, Node: node})
									}
								}
							}
						}
					}
				}
			}
		}
	}
	for _, n := range []int64{0, 1, maxSeq, maxSeq + 1, math.MinInt64} {
		for _, m := range []int64{0, 1, maxSeq, maxSeq + 1, math.MaxInt64} {
			for kind := -1; kind <= 14; kind++ {
				at(with(base(kind), func(o *api.Order) { o.Client, o.Seq = n, m }))
			}
		}
	}
	for kind := api.OrNone; kind <= api.OrMeta; kind++ {
		if right[kind] == 0 {
			t.Errorf("kind %d: no order that may be", kind)
		}
	}
}

func TestP7_1CheckOfLongTextsEnds(t *testing.T) {
	long := strings.Repeat("1:1,", 1<<22)
	for kind := -1; kind <= 14; kind++ {
		for _, set := range []func(o *api.Order){
			func(o *api.Order) { o.Key = long }, func(o *api.Order) { o.To = long }, func(o *api.Order) { o.Value = long }, func(o *api.Order) { o.Old, o.Has = long, true },
		} {
			if e := order.Check(with(base(kind), set)); e != api.ErrOrder {
				t.Errorf("kind %d, of a long text: %d", kind, e)
			}
		}
	}
}

func TestP7_4ReadsIsWhatNeedNotBeRemembered(t *testing.T) {
	for kind := -300; kind <= 300; kind++ {
		want := kind == 1 || kind == 5 || kind == 8 || kind == 12
		if got := order.Reads(kind); got != want {
			t.Errorf("Reads(%d): %v", kind, got)
		}
	}
	for _, kind := range noKinds() {
		if order.Reads(kind) {
			t.Errorf("Reads(%d): true", kind)
		}
	}
}

func TestP7_4KeyedIsWhatHasAKey(t *testing.T) {
	for kind := -300; kind <= 300; kind++ {
		want := kind >= 1 && kind <= 12 && kind != 6
		if got := order.Keyed(kind); got != want {
			t.Errorf("Keyed(%d): %v", kind, got)
		}
	}
	for _, kind := range noKinds() {
		if order.Keyed(kind) {
			t.Errorf("Keyed(%d): true", kind)
		}
	}
}

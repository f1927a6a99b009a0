package order_test

import (
	"fmt"
	"math"
	"slices"
	"strconv"
	"strings"
	"testing"

	"furlong/api"
)

const (
	maxSeq = int64(1) << 40
	maxId  = int64(1) << 40
)

// a is a text of n bytes.
func a(n int) string {
	return strings.Repeat("a", n)
}

// show tells what v is, in a line that is not too long.
func show(v any) string {
	s := fmt.Sprintf("%+v", v)
	return strconv.Quote(s[:min(len(s), 300)])
}

// record is the text of a descriptor that may be: range 4 from c to p, with one
// member.
const record = "1:4,1:c,1:p,1:9,1:8,1:2,1:1,"

// noRecords are texts of no descriptor that may be.
func noRecords() []string {
	return []string{
		"", "x", ",", "0:,", record + ",", record[1:], record[:len(record)-1], "01:4,1:c,1:p,1:9,1:8,1:2,1:1,", // no knots, or of nothing
		"1:4,1:c,1:p,1:9,1:8,", "1:4,1:c,1:p,1:9,1:8,1:2,", record + "1:3,", // too few strands, or too many
		"1:0,1:c,1:p,1:9,1:8,1:2,1:1,", "1:4,1:p,1:c,1:9,1:8,1:2,1:1,", "1:4,1:c,1:p,1:0,1:8,1:2,1:1,", // an Id, a Bound, a Gen ..
		"1:4,1:c,1:p,1:9,1:1,1:2,1:1,", "1:4,1:c,1:p,1:9,1:8,1:8,1:1,", "1:4,1:c,1:p,1:9,1:8,1:0,1:1,", // .. a Next, a Node that may not be
		"2:04,1:c,1:p,1:9,1:8,1:2,1:1,", "1:a,1:c,1:p,1:9,1:8,1:2,1:1,", // a number that is none
		strings.Repeat("1:4,", 5000), a(2000000),
	}
}

// base is the plainest order of each kind that a client gives.
func base(kind int) api.Order {
	o := api.Order{Kind: kind, Client: 3, Seq: 5}
	switch kind {
	case api.OrNone:
		return api.Order{}
	case api.OrAlloc:
		return o
	case api.OrMeta:
		o.Value, o.Limit = record, 2
		return o
	}
	o.Key = "k"
	switch kind {
	case api.OrScan:
		o.Limit = 7
	case api.OrSplit, api.OrRemove:
		o.Id = 6
	case api.OrMerge:
		o.Value = "p"
	case api.OrAdd:
		o.Node = 4
	}
	return o
}

// kinds are all kinds that a client's order has.
func kinds() []int {
	return []int{
		api.OrGet, api.OrPut, api.OrDel, api.OrSwap, api.OrScan, api.OrAlloc, api.OrSplit,
		api.OrFreeze, api.OrMerge, api.OrAdd, api.OrRemove, api.OrLook, api.OrMeta,
	}
}

// noKinds are numbers that no kind is, those among them that would be one, if
// they were cut off.
func noKinds() []int {
	return []int{-1, 14, 15, 16, 27, 100, -2, -13, 255, 256, 257, 269, 1<<16 + 1, 1<<31 + 1, 1<<32 + 1, 1<<32 + 13, -1<<32 + 1, 1 << 32, math.MaxInt, math.MinInt, math.MinInt + 1}
}

// with is o, changed.
func with(o api.Order, change func(o *api.Order)) api.Order {
	change(&o)
	return o
}

// namedOrder is an order, and what there is about it.
type namedOrder struct {
	name string
	o    api.Order
}

// rightOrders are orders that may be, at the edges too.
func rightOrders() []namedOrder {
	l := []namedOrder{{"none", api.Order{}}}
	add := func(kind int, name string, change func(o *api.Order)) {
		l = append(l, namedOrder{"kind " + strconv.Itoa(kind) + ": " + name, with(base(kind), change)})
	}
	for _, kind := range kinds() {
		add(kind, "plain", func(o *api.Order) {})
		for _, n := range []int64{1, 2, maxSeq - 1, maxSeq} {
			add(kind, "a Client", func(o *api.Order) { o.Client = n })
			add(kind, "a Seq", func(o *api.Order) { o.Seq = n })
			add(kind, "a Client and a Seq", func(o *api.Order) { o.Client, o.Seq = n, n })
		}
		if kind == api.OrAlloc || kind == api.OrMeta {
			continue
		}
		for _, key := range []string{"\x02", "\x02a", "\x03", "\xff", "a", a(31), a(32), "1:,", "\x02" + a(31), strings.Repeat("\xff", 32)} {
			add(kind, "a Key", func(o *api.Order) { o.Key = key })
		}
		for _, key := range []string{"\x00", "\x01", "\x01a", "\x00a", "\x01" + a(31)} {
			if kind != api.OrSplit {
				add(kind, "a Key", func(o *api.Order) { o.Key = key })
			}
		}
	}
	for _, value := range []string{"", "v", "\x00", "2:v,,", a(63), a(64)} {
		add(api.OrPut, "a Value", func(o *api.Order) { o.Value = value })
		for _, old := range []string{"", "w", "v", a(63), a(64)} {
			add(api.OrSwap, "a Value and an Old", func(o *api.Order) { o.Value, o.Old, o.Has = value, old, true })
		}
		add(api.OrSwap, "a Value and no Old", func(o *api.Order) { o.Value = value })
	}
	for _, b := range [][2]string{
		{"", ""}, {"", "a"}, {"", "\x00"}, {"a", "a\x00"}, {"a", "b"}, {"", a(33)}, {a(33), ""}, {a(32), a(33)}, {a(33), "b"}, {a(33), "b" + a(32)}, {"m", ""}, {"\x02m\x00", "\x03"},
	} {
		add(api.OrScan, "a Key and a To", func(o *api.Order) { o.Key, o.To = b[0], b[1] })
	}
	for _, limit := range []int{1, 2, 99, 100} {
		add(api.OrScan, "a Limit", func(o *api.Order) { o.Limit = limit })
	}
	for _, id := range []int64{2, 3, maxId - 1, maxId} {
		add(api.OrSplit, "an Id", func(o *api.Order) { o.Id = id })
		add(api.OrRemove, "an Id", func(o *api.Order) { o.Id = id })
	}
	add(api.OrRemove, "the Id 1", func(o *api.Order) { o.Id = 1 })
	for _, n := range []int{1, 2, 65, 513, 65535, 65536} {
		add(api.OrMerge, "a Value", func(o *api.Order) { o.Value = a(n) })
	}
	for node := 1; node <= 7; node++ {
		add(api.OrAdd, "a Node", func(o *api.Order) { o.Node = node })
	}
	for _, value := range []string{record, "1:1,0:,0:,1:1,1:2,1:3,1:1,"} {
		for limit := 1; limit <= 2; limit++ {
			add(api.OrMeta, "a Value and a Limit", func(o *api.Order) { o.Value, o.Limit = value, limit })
		}
	}
	return l
}

// wrongNumbers are numbers that are neither a Client, nor a Seq, nor an Id.
func wrongNumbers() []int64 {
	return []int64{0, -1, -5, maxSeq + 1, maxSeq + 2, 1 << 41, 1<<62 + 5, math.MaxInt64, math.MinInt64, math.MinInt64 + 5}
}

// wrongOrders are orders that may not be, each for the one thing that its name
// tells.
func wrongOrders() []namedOrder {
	var l []namedOrder
	add := func(kind int, name string, change func(o *api.Order)) {
		l = append(l, namedOrder{"kind " + strconv.Itoa(kind) + ": " + name, with(base(kind), change)})
	}
	for _, kind := range kinds() {
		for _, n := range wrongNumbers() {
			add(kind, "a Client", func(o *api.Order) { o.Client = n })
			add(kind, "a Seq", func(o *api.Order) { o.Seq = n })
			add(kind, "a Client and a Seq", func(o *api.Order) { o.Client, o.Seq = n, n })
		}
		for _, other := range noKinds() {
			add(kind, "a Kind", func(o *api.Order) { o.Kind = other })
		}
		for _, key := range []string{"", a(33), a(34), a(65536), "\x02" + a(32)} {
			if kind != api.OrAlloc && kind != api.OrMeta && kind != api.OrScan {
				add(kind, "a Key", func(o *api.Order) { o.Key = key })
			}
		}
	}
	for _, n := range []int64{1, 2, -1, maxSeq, maxSeq + 1, math.MaxInt64, math.MinInt64} {
		add(api.OrNone, "a Client", func(o *api.Order) { o.Client = n })
		add(api.OrNone, "a Seq", func(o *api.Order) { o.Seq = n })
		add(api.OrNone, "a Client and a Seq", func(o *api.Order) { o.Client, o.Seq = n, n })
	}
	for _, kind := range noKinds() {
		add(api.OrNone, "a Kind alone", func(o *api.Order) { o.Kind = kind })
	}
	for _, n := range []int{65, 66, 512, 100000} {
		add(api.OrPut, "a Value", func(o *api.Order) { o.Value = a(n) })
		add(api.OrSwap, "a Value", func(o *api.Order) { o.Value = a(n) })
		add(api.OrSwap, "a Value, with Has", func(o *api.Order) { o.Value, o.Has = a(n), true })
		add(api.OrSwap, "an Old", func(o *api.Order) { o.Old, o.Has = a(n), true })
		add(api.OrSwap, "an Old, without Has", func(o *api.Order) { o.Old = a(n) })
	}
	add(api.OrSwap, "an Old, without Has", func(o *api.Order) { o.Old = "w" })
	add(api.OrSwap, "an Old, without Has", func(o *api.Order) { o.Value, o.Old = "v", a(64) })
	for _, b := range [][2]string{
		{a(34), ""}, {a(34), "b"}, {a(100000), ""}, {"", a(34)}, {"a", a(34)}, {"", a(100000)},
		{"a", "a"}, {"b", "a"}, {"a\x00", "a"}, {"\x00", "\x00"}, {a(33), a(33)}, {a(33), a(32)}, {"b", a(33)}, {"\xff", "\x7f"},
	} {
		add(api.OrScan, "a Key and a To", func(o *api.Order) { o.Key, o.To = b[0], b[1] })
	}
	for _, n := range []int{0, -1, 101, 102, 356, -7, 1<<32 + 1, 1<<32 + 100, math.MaxInt, math.MinInt, math.MinInt + 7} {
		add(api.OrScan, "a Limit", func(o *api.Order) { o.Limit = n })
	}
	for _, key := range []string{"\x00", "\x01", "\x00a", "\x01a", "\x01\x02", "\x01" + a(31), "\x00\xff"} {
		add(api.OrSplit, "a Key", func(o *api.Order) { o.Key = key })
	}
	for _, n := range wrongNumbers() {
		add(api.OrSplit, "an Id", func(o *api.Order) { o.Id = n })
		add(api.OrRemove, "an Id", func(o *api.Order) { o.Id = n })
	}
	add(api.OrSplit, "the Id 1", func(o *api.Order) { o.Id = 1 })
	for _, n := range []int{0, 65537, 65538, 1 << 17, 2000000} {
		add(api.OrMerge, "a Value", func(o *api.Order) { o.Value = a(n) })
	}
	for _, n := range []int{0, -1, -4, 8, 9, 257, 260, 1<<32 + 1, 1<<32 + 7, math.MaxInt, math.MinInt, math.MinInt + 4} {
		add(api.OrAdd, "a Node", func(o *api.Order) { o.Node = n })
	}
	for _, value := range noRecords() {
		add(api.OrMeta, "a Value", func(o *api.Order) { o.Value = value })
		add(api.OrMeta, "a Value", func(o *api.Order) { o.Value, o.Limit = value, 1 })
	}
	for _, n := range []int{0, 3, -1, -2, 4, 257, 258, 1<<32 + 1, 1<<32 + 2, math.MaxInt, math.MinInt, math.MinInt + 2} {
		add(api.OrMeta, "a Limit", func(o *api.Order) { o.Limit = n })
	}
	return append(l, foreign()...)
}

// foreign are orders that may be but for one field, which those of their kind do
// not have.
func foreign() []namedOrder {
	var l []namedOrder
	for _, kind := range append(kinds(), api.OrNone) {
		for _, f := range fields() {
			if strings.Contains(has(kind), " "+f.name+" ") {
				continue
			}
			for i, set := range f.set {
				l = append(l, namedOrder{fmt.Sprintf("kind %d: %s %d", kind, f.name, i), with(base(kind), set)})
			}
		}
	}
	return l
}

// has is which fields the chapter's table names for a kind.
func has(kind int) string {
	switch kind {
	case api.OrGet, api.OrDel, api.OrFreeze, api.OrLook:
		return " Key "
	case api.OrPut, api.OrMerge:
		return " Key Value "
	case api.OrSwap:
		return " Key Value Old Has "
	case api.OrScan:
		return " Key To Limit "
	case api.OrSplit, api.OrRemove:
		return " Key Id "
	case api.OrAdd:
		return " Key Node "
	case api.OrMeta:
		return " Value Limit "
	}
	return ""
}

// field is a field of an order, and ways to make it another one than zero.
type field struct {
	name string
	set  []func(o *api.Order)
}

func fields() []field {
	return []field{
		{"Key", []func(o *api.Order){
			func(o *api.Order) { o.Key = "c" }, func(o *api.Order) { o.Key = "\x02c" }, func(o *api.Order) { o.Key = a(40) },
		}},
		{"To", []func(o *api.Order){
			func(o *api.Order) { o.To = "z" }, func(o *api.Order) { o.To = "\x00" }, func(o *api.Order) { o.To = a(40) },
		}},
		{"Value", []func(o *api.Order){
			func(o *api.Order) { o.Value = "v" }, func(o *api.Order) { o.Value = record }, func(o *api.Order) { o.Value = a(70) },
		}},
		{"Old", []func(o *api.Order){
			func(o *api.Order) { o.Old = "w" }, func(o *api.Order) { o.Old = "\x00" }, func(o *api.Order) { o.Old = a(70) }, func(o *api.Order) { o.Old, o.Has = "w", true },
		}},
		{"Has", []func(o *api.Order){
			func(o *api.Order) { o.Has = true },
		}},
		{"Limit", []func(o *api.Order){
			func(o *api.Order) { o.Limit = 1 }, func(o *api.Order) { o.Limit = -1 }, func(o *api.Order) { o.Limit = math.MinInt },
		}},
		{"Id", []func(o *api.Order){
			func(o *api.Order) { o.Id = 2 }, func(o *api.Order) { o.Id = -2 }, func(o *api.Order) { o.Id = 1 << 32 }, func(o *api.Order) { o.Id = math.MinInt64 },
		}},
		{"Node", []func(o *api.Order){
			func(o *api.Order) { o.Node = 1 }, func(o *api.Order) { o.Node = -1 }, func(o *api.Order) { o.Node = math.MinInt },
		}},
	}
}

// strand is a text's strand.
func strand(s string) string {
	return strconv.Itoa(len(s)) + ":" + s + ","
}

// num is the strand of a number.
func num(n int64) string {
	return strand(strconv.FormatInt(n, 10))
}

// truth is the strand of whether something is so.
func truth(is bool) string {
	if is {
		return "1:1,"
	}
	return "1:0,"
}

// text is the text that the chapter says of an order.
func text(o api.Order) string {
	return num(int64(o.Kind)) + num(o.Client) + num(o.Seq) + strand(o.Key) + strand(o.To) + strand(o.Value) + strand(o.Old) +
		truth(o.Has) + num(int64(o.Limit)) + num(o.Id) + num(int64(o.Node))
}

// wantsOrder holds an answer against what it should be: with an error, against
// nothing at all.
func wantsOrder(t *testing.T, what string, got api.Order, e api.Errno, want api.Order, wantE api.Errno) {
	t.Helper()
	if wantE != api.OK {
		want = api.Order{}
	}
	if e != wantE || got != want {
		t.Errorf("%s: %s %d, not %s %d", what, show(got), e, show(want), wantE)
	}
}

// withReply is r, changed, with a list of its own.
func withReply(r api.Reply, change func(r *api.Reply)) api.Reply {
	r.Pairs = slices.Clone(r.Pairs)
	change(&r)
	return r
}

// namedReply is a reply, and what there is about it.
type namedReply struct {
	name string
	r    api.Reply
}

// some is a reply with all that one may have at once.
func some() api.Reply {
	return api.Reply{Code: api.ReBad, Err: 60, Has: true, Value: "v", Pairs: []api.Pair{{Key: "a", Value: "1"}, {Key: "c", Value: ""}, {Key: "b", Value: "22"}}}
}

// many is n pairs, all alike.
func many(n int, p api.Pair) []api.Pair {
	return slices.Repeat([]api.Pair{p}, n)
}

// rightReplies are replies that may be, at the edges too.
func rightReplies() []namedReply {
	l := []namedReply{{"zero", api.Reply{}}, {"some", some()}}
	add := func(name string, change func(r *api.Reply)) {
		l = append(l, namedReply{name, withReply(some(), change)})
	}
	for code := 0; code <= 3; code++ {
		add("a Code, without an Err", func(r *api.Reply) { r.Code, r.Err = code, 0 })
		l = append(l, namedReply{"a Code alone", api.Reply{Code: code}})
	}
	for _, e := range []api.Errno{1, 2, 70, 255, 256, 998, 999} {
		add("an Err", func(r *api.Reply) { r.Err = e })
		l = append(l, namedReply{"an Err alone", api.Reply{Code: api.ReBad, Err: e}})
	}
	add("not Has", func(r *api.Reply) { r.Has = false })
	for _, n := range []int{0, 64, 65, 512, 513, 65535, 65536} {
		add("a Value", func(r *api.Reply) { r.Value = a(n) })
	}
	for _, n := range []int{0, 1, 2, 99, 100} {
		add("Pairs", func(r *api.Reply) { r.Pairs = many(n, api.Pair{Key: "a"}) })
	}
	for i := range 3 {
		for _, key := range []string{"\x00", "a", "\x01a", "\xff", a(31), a(32), "1:,"} {
			add("a pair's Key", func(r *api.Reply) { r.Pairs[i].Key = key })
		}
		for _, n := range []int{0, 1, 64, 65, 511, 512} {
			add("a pair's Value", func(r *api.Reply) { r.Pairs[i].Value = a(n) })
		}
	}
	add("all of the greatest", func(r *api.Reply) {
		r.Err, r.Value, r.Pairs = 999, a(65536), many(100, api.Pair{Key: a(32), Value: a(512)})
	})
	return l
}

// wrongReplies are replies that may not be, each for the one thing that its name
// tells.
func wrongReplies() []namedReply {
	var l []namedReply
	add := func(name string, change func(r *api.Reply)) {
		l = append(l, namedReply{name, withReply(some(), change)})
	}
	for _, code := range []int{-1, 5, 6, -4, 256, 260, 1 << 32, 1<<32 + 4, math.MaxInt, math.MinInt, math.MinInt + 4} {
		add("a Code", func(r *api.Reply) { r.Code = code })
		add("a Code, without an Err", func(r *api.Reply) { r.Code, r.Err = code, 0 })
		l = append(l, namedReply{"a Code alone", api.Reply{Code: code}})
	}
	for _, e := range []api.Errno{0, -1, 1000, 1001, 1060, -60, 1 << 32, 1<<32 + 60, math.MaxInt, math.MinInt, math.MinInt + 60} {
		add("an Err", func(r *api.Reply) { r.Err = e })
		l = append(l, namedReply{"an Err alone", api.Reply{Code: api.ReBad, Err: e}})
	}
	for code := 0; code <= 3; code++ {
		for _, e := range []api.Errno{1, 60, 999, 1000, -1, 1 << 32, math.MaxInt, math.MinInt} {
			add("an Err of another Code", func(r *api.Reply) { r.Code, r.Err = code, e })
			l = append(l, namedReply{"an Err of another Code, alone", api.Reply{Code: code, Err: e}})
		}
	}
	for _, n := range []int{65537, 65538, 1 << 17, 2000000} {
		add("a Value", func(r *api.Reply) { r.Value = a(n) })
	}
	for _, n := range []int{101, 102, 200, 356, 2046, 2047, 2048, 5000} {
		add("Pairs", func(r *api.Reply) { r.Pairs = many(n, api.Pair{Key: "a"}) })
	}
	for i := range 3 {
		for _, key := range []string{"", a(33), a(34), a(64), a(288), a(100000)} {
			add("a pair's Key", func(r *api.Reply) { r.Pairs[i].Key = key })
		}
		for _, n := range []int{513, 514, 1024, 65536, 2000000} {
			add("a pair's Value", func(r *api.Reply) { r.Pairs[i].Value = a(n) })
		}
		add("a pair of nothing", func(r *api.Reply) { r.Pairs[i] = api.Pair{} })
	}
	add("the hundredth pair's Key", func(r *api.Reply) {
		r.Pairs = many(100, api.Pair{Key: "a"})
		r.Pairs[99].Key = ""
	})
	return l
}

// replyText is the text that the chapter says of a reply.
func replyText(r api.Reply) string {
	var b strings.Builder
	b.WriteString(num(int64(r.Code)) + num(int64(r.Err)) + truth(r.Has) + strand(r.Value))
	for _, p := range r.Pairs {
		b.WriteString(strand(p.Key) + strand(p.Value))
	}
	return b.String()
}

// equal is whether two replies are alike, field by field.
func equal(a, b api.Reply) bool {
	if len(a.Pairs) != len(b.Pairs) {
		return false
	}
	for i, p := range a.Pairs {
		if p.Key != b.Pairs[i].Key || p.Value != b.Pairs[i].Value {
			return false
		}
	}
	return a.Code == b.Code && a.Err == b.Err && a.Has == b.Has && a.Value == b.Value
}

// wantsReply holds an answer against what it should be: with an error, against
// nothing at all.
func wantsReply(t *testing.T, what string, got api.Reply, e api.Errno, want api.Reply, wantE api.Errno) {
	t.Helper()
	if wantE != api.OK {
		want = api.Reply{}
	}
	if e != wantE || !equal(got, want) {
		t.Errorf("%s: %s %d, not %s %d", what, show(got), e, show(want), wantE)
	}
}

// spare stands in the room behind a list's end.
var spare = api.Pair{Key: "spare", Value: "room"}

// roomy is r with room behind its pairs, in which something stands.
func roomy(r api.Reply) api.Reply {
	l := append(slices.Clone(r.Pairs), spare, spare, spare)
	r.Pairs = l[:len(r.Pairs)]
	return r
}

// alone fails, unless r, which roomy made of was, is as it was, its spare room
// too.
func alone(t *testing.T, what string, r, was api.Reply) {
	t.Helper()
	all := r.Pairs[:len(r.Pairs)+3]
	if !equal(r, was) || !slices.Equal(all[len(r.Pairs):], many(3, spare)) {
		t.Errorf("%s: changed a list", what)
	}
}

package session_test

import (
	"fmt"
	"math"
	"slices"
	"strconv"
	"strings"
	"testing"

	"furlong/api"
)

const (
	maxSeq     = int64(1) << 40
	maxClients = 64
)

// a is a text of n bytes.
func a(n int) string {
	return strings.Repeat("a", n)
}

// show tells what v is, in a line that is not too long.
func show(v any) string {
	s := fmt.Sprintf("%+v", v)
	return strconv.Quote(s[:min(len(s), 300)])
}

// of is a client's session, whose reply has this value.
func of(client, seq int64, value string) api.Session {
	return api.Session{Client: client, Seq: seq, Reply: api.Reply{Value: value}}
}

// some are three clients' sessions: 3, 5 and 9.
func some() []api.Session {
	return []api.Session{
		{Client: 3, Seq: 5, Reply: api.Reply{Has: true, Value: "x"}},
		{Client: 5, Seq: 1, Reply: api.Reply{Code: api.ReBad, Err: 60}},
		{Client: 9, Seq: 8, Reply: api.Reply{Value: "yy"}},
	}
}

// row is n clients' sessions, from the client first on, one beside the other.
func row(first int64, n int) []api.Session {
	var l []api.Session
	for i := range int64(n) {
		l = append(l, of(first+i, 10, "r"+strconv.FormatInt(first+i, 10)))
	}
	return l
}

// with is l, changed, as a list of its own.
func with(l []api.Session, change func(l []api.Session)) []api.Session {
	l = copied(l)
	change(l)
	return l
}

// copied is l as a list that shares nothing with it.
func copied(l []api.Session) []api.Session {
	l = slices.Clone(l)
	for i := range l {
		l[i].Reply.Pairs = slices.Clone(l[i].Reply.Pairs)
	}
	return l
}

// named is a list, and what there is about it.
type named struct {
	name string
	l    []api.Session
}

// right are sessions that may be, at the edges too.
func right() []named {
	l := []named{
		{"none", nil}, {"an empty list", []api.Session{}}, {"three", some()}, {"one", some()[:1]}, {"two", some()[1:]},
		{"one less than all", row(1, 63)}, {"all", row(1, 64)}, {"all of the last", row(maxSeq-63, 64)},
		{"first and last", []api.Session{of(1, maxSeq, ""), of(maxSeq, 1, "")}},
	}
	add := func(name string, change func(s *api.Session)) {
		for i := range 3 {
			l = append(l, named{name, with(some(), func(l []api.Session) { change(&l[i]) })})
		}
		one := of(4, 4, "v")
		change(&one)
		l = append(l, named{name + ", alone", []api.Session{one}})
	}
	for _, n := range []int64{1, 2, 1 << 32, maxSeq - 1, maxSeq} {
		add("a Seq", func(s *api.Session) { s.Seq = n })
		l = append(l, named{"a Client, alone", []api.Session{of(n, 7, "v")}})
	}
	l = append(l,
		named{"the first Client", with(some(), func(l []api.Session) { l[0].Client = 1 })},
		named{"the Client next to it", with(some(), func(l []api.Session) { l[0].Client = 4 })},
		named{"the last Client", with(some(), func(l []api.Session) { l[2].Client = maxSeq })},
	)
	for code := api.ReOK; code <= api.ReOld; code++ {
		add("a Code", func(s *api.Session) { s.Reply = api.Reply{Code: code} })
	}
	for _, e := range []api.Errno{1, 80, 999} {
		add("an Err", func(s *api.Session) { s.Reply = api.Reply{Code: api.ReBad, Err: e} })
	}
	for _, has := range []bool{false, true} {
		add("a Has", func(s *api.Session) { s.Reply.Has = has })
	}
	for _, n := range []int{0, 1, 64, 65, 511, 512} {
		add("a Value", func(s *api.Session) { s.Reply.Value = a(n) })
	}
	add("no Pairs, as an empty list", func(s *api.Session) { s.Reply.Pairs = []api.Pair{} })
	most := row(1, 64)
	for i := range most {
		most[i].Seq = maxSeq
		most[i].Reply = api.Reply{Code: api.ReBad, Err: 999, Has: true, Value: a(512)}
	}
	return append(l, named{"all of the greatest", most})
}

// wrongNumbers are numbers that are neither a Client nor a Seq.
func wrongNumbers() []int64 {
	return []int64{0, -1, -4, maxSeq + 1, maxSeq + 2, 1 << 41, 1<<62 + 5, math.MaxInt64, math.MinInt64, math.MinInt64 + 4}
}

// wrongReplies are replies that no session may have.
func wrongReplies() []api.Reply {
	pair := api.Pair{Key: "a", Value: "b"}
	l := []api.Reply{
		{Code: api.ReBad}, {Code: -1}, {Code: 5}, {Code: math.MinInt}, {Code: math.MaxInt}, {Err: 1}, {Err: -1}, {Code: api.ReOld, Err: 80},
		{Code: api.ReBad, Err: 1000}, {Code: api.ReBad, Err: -1}, {Code: api.ReBad, Err: math.MaxInt},
		{Pairs: []api.Pair{pair}}, {Has: true, Value: "v", Pairs: []api.Pair{pair, pair}}, {Pairs: []api.Pair{{}}}, {Pairs: slices.Repeat([]api.Pair{pair}, 100)},
		{Pairs: slices.Repeat([]api.Pair{pair}, 101)}, {Value: a(513), Pairs: []api.Pair{pair}},
	}
	for _, n := range []int{513, 514, 1024, 65536, 65537, 1 << 20} {
		l = append(l, api.Reply{Value: a(n)}, api.Reply{Code: api.ReBad, Err: 1, Value: a(n)})
	}
	return l
}

// wrongOnes are sessions that may not be by themselves.
func wrongOnes() []api.Session {
	l := []api.Session{{}, {Client: 1}, {Seq: 1}}
	for _, n := range wrongNumbers() {
		l = append(l, of(n, 4, "v"), of(4, n, "v"), of(n, n, "v"))
	}
	for _, r := range wrongReplies() {
		l = append(l, api.Session{Client: 4, Seq: 4, Reply: r})
	}
	return l
}

// wrong are sessions that may not be.
func wrong() []named {
	l := []named{
		{"one too many", row(1, 65)}, {"one too many, of the last", row(maxSeq-64, 65)}, {"many", row(1, 128)}, {"far too many", row(1, 320)},
		{"64 more than 2^16", row(1, 1<<16+64)},
		{"one client twice", []api.Session{of(3, 1, ""), of(3, 1, "")}}, {"one client twice, rising", []api.Session{of(3, 1, ""), of(3, 2, "")}},
		{"one client twice, falling", []api.Session{of(3, 2, ""), of(3, 1, "")}}, {"clients that fall", []api.Session{of(3, 1, ""), of(2, 2, "")}},
		{"clients that fall by one", []api.Session{of(1, 1, ""), of(3, 1, ""), of(2, 1, "")}},
		{"the first client behind all", []api.Session{of(2, 1, ""), of(3, 1, ""), of(1, 1, "")}},
		{"one client 64 times", slices.Repeat([]api.Session{of(1, 1, "")}, 64)},
		{"the last client twice", append(row(1, 63), of(63, 10, "r63"))},
		{"nothing", make([]api.Session, 1)}, {"nothing, 64 times", make([]api.Session, 64)}, {"nothing, 65 times", make([]api.Session, 65)},
	}
	backwards := row(1, 64)
	slices.Reverse(backwards)
	l = append(l, named{"backwards", backwards})
	for _, s := range wrongOnes() {
		l = append(l, named{"one alone", []api.Session{s}})
		for i := range 3 {
			l = append(l, named{"one of three", with(some(), func(l []api.Session) { l[i].Seq, l[i].Reply = s.Seq, s.Reply })})
		}
	}
	// Those that were right, where they stand, are none of these.
	l = slices.DeleteFunc(l, func(c named) bool { return may(c.l) })
	for _, n := range wrongNumbers() {
		for i := range 3 {
			l = append(l, named{"a Client", with(some(), func(l []api.Session) { l[i].Client = n })})
		}
		l = append(l, named{"a Client ahead of all", append([]api.Session{of(n, 1, "")}, some()...)}, named{"a Client behind all", append(some(), of(n, 1, ""))})
	}
	return l
}

// may is whether sessions may be, as the chapter tells it: each one's place is
// held against each other one's.
func may(l []api.Session) bool {
	for i, s := range l {
		for j, o := range l[:min(len(l), 100)] {
			if i < j && s.Client >= o.Client || j < i && s.Client <= o.Client {
				return false
			}
		}
		bad := s.Reply.Code == api.ReBad
		switch {
		case s.Client < 1 || s.Client > maxSeq || s.Seq < 1 || s.Seq > maxSeq, s.Reply.Code < 0 || s.Reply.Code > 4,
			bad && (s.Reply.Err < 1 || s.Reply.Err > 999), !bad && s.Reply.Err != 0, len(s.Reply.Value) > 512, len(s.Reply.Pairs) > 0:
			return false
		}
	}
	return len(l) <= maxClients
}

// strand is a text's strand.
func strand(s string) string {
	return strconv.Itoa(len(s)) + ":" + s + ","
}

// num is the strand of a number.
func num(n int64) string {
	return strand(strconv.FormatInt(n, 10))
}

// replyText is the text of a reply.
func replyText(r api.Reply) string {
	has := "0"
	if r.Has {
		has = "1"
	}
	s := num(int64(r.Code)) + num(int64(r.Err)) + strand(has) + strand(r.Value)
	for _, p := range r.Pairs {
		s += strand(p.Key) + strand(p.Value)
	}
	return s
}

// text is the text that the chapter says of sessions.
func text(l []api.Session) string {
	var b strings.Builder
	for _, s := range l {
		b.WriteString(num(s.Client) + num(s.Seq) + strand(replyText(s.Reply)))
	}
	return b.String()
}

// alike is whether two replies are, field by field.
func alike(a, b api.Reply) bool {
	return a.Code == b.Code && a.Err == b.Err && a.Has == b.Has && a.Value == b.Value && slices.Equal(a.Pairs, b.Pairs)
}

// equal is whether two sessions are, field by field.
func equal(a, b api.Session) bool {
	return a.Client == b.Client && a.Seq == b.Seq && alike(a.Reply, b.Reply)
}

// wants holds an answer against what it should be: with an error, against none.
func wants(t *testing.T, what string, got []api.Session, e api.Errno, want []api.Session, wantE api.Errno) {
	t.Helper()
	if wantE != api.OK {
		want = nil
	}
	if e != wantE || !slices.EqualFunc(got, want, equal) {
		t.Errorf("%s: %s %d, not %s %d", what, show(got), e, show(want), wantE)
	}
}

// spare and sparePair stand in the room behind a list's end.
var (
	spare     = of(77, 77, "spare")
	sparePair = api.Pair{Key: "spare", Value: "room"}
)

// roomy is l with room behind it, and behind each one's pairs, in which
// something stands.
func roomy(l []api.Session) []api.Session {
	all := append(copied(l), spare, spare)
	for i := range l {
		p := append(slices.Clone(all[i].Reply.Pairs), sparePair, sparePair)
		all[i].Reply.Pairs = p[:len(p)-2]
	}
	return all[:len(l)]
}

// alone fails, unless l, which roomy made of was, is as it was, its spare room
// too.
func alone(t *testing.T, what string, l, was []api.Session) {
	t.Helper()
	behind := l[len(l) : len(l)+2]
	if !slices.EqualFunc(l, was, equal) || !equal(behind[0], spare) || !equal(behind[1], spare) {
		t.Errorf("%s: changed a list", what)
	}
	for _, s := range l {
		n := len(s.Reply.Pairs)
		if p := s.Reply.Pairs[n : n+2]; p[0] != sparePair || p[1] != sparePair {
			t.Errorf("%s: changed a pair behind a list's end", what)
		}
	}
}

// scribble writes over all of l, its spare room too, and over each one's pairs.
func scribble(l []api.Session) {
	all := l[:cap(l)]
	for i := range all {
		scribblePairs(all[i].Reply.Pairs)
		all[i] = of(-9, -9, "scribble")
	}
}

func scribblePairs(l []api.Pair) {
	all := l[:cap(l)]
	for i := range all {
		all[i] = api.Pair{Key: "scribble", Value: "scribble"}
	}
}

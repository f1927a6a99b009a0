package post_test

import (
	"math"
	"math/rand/v2"
	"slices"
	"strings"
	"testing"

	"furlong/api"
	"furlong/post"
)

func TestP14_1PacketsThatMayBe(t *testing.T) {
	for _, c := range append(right(), great()...) {
		checks(t, c.name, c.p, api.OK)
	}
}

func TestP14_1PacketsThatMayNotBe(t *testing.T) {
	for _, c := range wrong() {
		checks(t, c.name, c.p, api.ErrPost)
	}
}

// wild are numbers at the ends of anything, and beyond.
func wild() []int64 {
	return []int64{
		math.MinInt64, math.MinInt64 + 1, math.MinInt64 + 5, -1<<40 - 1, -1 << 32, -5, -2, -1, 0, 1, 2, 3, 4, 5, 6, 7, 8, 9, 10, 11, 12, 13, 15, 64, 255, 256, 257, 263, 999, 1000,
		1<<32 + 1, 1<<32 + 5, 1<<40 - 1, 1 << 40, 1<<40 + 1, 1<<40 + 2, 1 << 41, 1<<62 + 5, math.MaxInt64 - 1, math.MaxInt64,
	}
}

// Each field that is a number, of a packet of each kind, is each of these
// numbers: those that it has at its ends and beyond, and those that it has not.
func TestP14_1EachNumber(t *testing.T) {
	for _, c := range plain() {
		for _, name := range numberNames() {
			for _, n := range wild() {
				p := set(c.p, name, n)
				checks(t, c.name+", "+name, p, ifSo(may(p)))
			}
		}
	}
}

// Each field, of a packet of each kind, is another one.
func TestP14_1EachFieldThatIsAnotherOne(t *testing.T) {
	for _, c := range plain() {
		for _, o := range others(c.p) {
			checks(t, c.name+", "+o.name, o.p, ifSo(may(o.p)))
		}
	}
}

// foreign are ways to make one field of a packet what would do in another kind.
func foreign() map[string]func(p *api.Packet) {
	return map[string]func(p *api.Packet){
		"From":         func(p *api.Packet) { p.From = 1 },
		"To":           func(p *api.Packet) { p.To = 1 },
		"Wire":         func(p *api.Packet) { p.Wire = raft(api.RaVote).Wire },
		"Wire.Reject":  func(p *api.Packet) { p.Wire.Reject = true },
		"Wire.Hint":    func(p *api.Packet) { p.Wire.Hint = -1 },
		"Wire.Text":    func(p *api.Packet) { p.Wire.Text = "x" },
		"Wire.Entries": func(p *api.Packet) { p.Wire.Entries = entries(4) },
		"Id":           func(p *api.Packet) { p.Id = 1 },
		"Next":         func(p *api.Packet) { p.Next = 2 },
		"Order":        func(p *api.Packet) { p.Order = put() },
		"Order.Key":    func(p *api.Packet) { p.Order.Key = "k" },
		"Order.Has":    func(p *api.Packet) { p.Order.Has = true },
		"Client":       func(p *api.Packet) { p.Client = 1 },
		"Seq":          func(p *api.Packet) { p.Seq = 1 },
		"Status":       func(p *api.Packet) { p.Status = 1 },
		"Hint":         func(p *api.Packet) { p.Hint = 1 },
		"Reply":        func(p *api.Packet) { p.Reply = reply() },
		"Reply.Code":   func(p *api.Packet) { p.Reply.Code = api.ReMoved },
		"Reply.Has":    func(p *api.Packet) { p.Reply.Has = true },
		"Reply.Value":  func(p *api.Packet) { p.Reply.Value = "v" },
		"Reply.Pairs":  func(p *api.Packet) { p.Reply.Pairs = []api.Pair{{Key: "a"}} },
	}
}

func TestP14_1FieldsThatItDoesNotHave(t *testing.T) {
	const (
		wire  = " Wire Wire.Reject Wire.Hint Wire.Text Wire.Entries"
		who   = " Id Next"
		what  = " Order Order.Key Order.Has"
		told  = " Client Seq Status Hint"
		reply = " Reply Reply.Code Reply.Has Reply.Value Reply.Pairs"
	)
	for _, c := range []struct {
		p    api.Packet
		lack string
	}{
		{raft(api.RaVote), "Wire.Text Wire.Entries" + who + what + told + reply},
		{some(), "Wire.Text" + who + what + told + reply},
		{snap(), "Wire.Entries" + who + what + told + reply},
		{gone(), wire + what + told + reply},
		{ask(), "From" + wire + who + told + reply},
		{done(), "To Hint" + wire + who + what},
		{not(), "To" + wire + who + what + reply},
		{tell(api.StNone), "To Hint" + wire + who + what + reply},
	} {
		for name := range strings.FieldsSeq(c.lack) {
			checks(t, name, with(c.p, foreign()[name]), api.ErrPost)
		}
	}
}

// numbers holds what Check says of p with each of these numbers in a field
// against what it should.
func numbers(t *testing.T, p api.Packet, name string, want map[int64]api.Errno) {
	t.Helper()
	for n, e := range want {
		checks(t, name, set(p, name, n), e)
	}
}

func TestP14_1TheRange(t *testing.T) {
	for _, c := range plain() {
		numbers(t, c.p, "Range", map[int64]api.Errno{-1: api.ErrPost, 0: api.ErrPost, 1: api.OK, maxId - 1: api.OK, maxId: api.OK, maxId + 1: api.ErrPost})
	}
}

func TestP14_1TheNodes(t *testing.T) {
	want := map[int64]api.Errno{-1: api.ErrPost, 0: api.ErrPost, 1: api.OK, 2: api.OK, 3: api.OK, 6: api.OK, 7: api.OK, 8: api.ErrPost, 256 + 3: api.ErrPost, 1<<32 + 3: api.ErrPost}
	for _, c := range plain() {
		if c.p.From != 0 {
			numbers(t, c.p, "From", want)
		}
		if c.p.To != 0 {
			numbers(t, c.p, "To", want)
		}
	}
}

func TestP14_1TheWiresNumbers(t *testing.T) {
	for kind := api.RaPre; kind <= api.RaSnap; kind++ {
		p := raft(kind)
		numbers(t, p, "Wire.Kind", map[int64]api.Errno{-1: api.ErrPost, 0: api.ErrPost, 1: api.OK, 2: api.OK, 6: api.OK, 7: api.OK, 8: api.ErrPost, 1<<32 + 1: api.ErrPost})
		numbers(t, p, "Wire.From", map[int64]api.Errno{-1: api.ErrPost, 0: api.ErrPost, 1: api.OK, 12: api.ErrPost, 13: api.OK, maxId: api.OK, maxId + 1: api.ErrPost})
		numbers(t, p, "Wire.To", map[int64]api.Errno{-1: api.ErrPost, 0: api.ErrPost, 1: api.OK, 11: api.ErrPost, 13: api.OK, maxId: api.OK, maxId + 1: api.ErrPost})
		numbers(t, p, "Wire.Term", map[int64]api.Errno{-1: api.ErrPost, 0: api.ErrPost, 1: api.OK, maxTerm: api.OK, maxTerm + 1: api.ErrPost})
		for _, name := range []string{"Wire.Index", "Wire.LogTerm", "Wire.Commit"} {
			numbers(t, p, name, map[int64]api.Errno{-2: api.ErrPost, -1: api.ErrPost, 0: api.OK, 1: api.OK, maxIndex: api.OK, maxIndex + 1: api.ErrPost})
		}
		numbers(t, p, "Wire.Hint", map[int64]api.Errno{math.MinInt64: api.ErrPost, -2: api.ErrPost, -1: api.OK, 0: api.OK, maxIndex: api.OK, maxIndex + 1: api.ErrPost})
	}
}

func TestP14_1HowManyEntries(t *testing.T) {
	for _, n := range []int{1, 2, 63, 64, 65, 66, 128, 3000} {
		checks(t, "entries", slips(n, 4), ifSo(n <= maxSlips))
	}
}

func TestP14_1EntriesAndATextOfOtherKinds(t *testing.T) {
	for kind := api.RaPre; kind <= api.RaSnap; kind++ {
		p := raft(kind)
		p.Wire.Entries = []api.Entry{{Term: 4}}
		checks(t, "an entry", p, ifSo(kind == api.RaAppend))
		p = raft(kind)
		p.Wire.Entries = []api.Entry{}
		checks(t, "an empty list", p, api.OK)
		for _, s := range []string{"x", "\x00", a(mostText)} {
			p.Wire.Text = s
			checks(t, "a Text", p, ifSo(kind == api.RaSnap))
		}
	}
}

func TestP14_1EntriesWhereTheyMayStand(t *testing.T) {
	for n := range 6 {
		for index := maxIndex - 6; index <= maxIndex+1; index++ {
			p := slips(n, 4)
			p.Wire.Index = index
			checks(t, "entries at the end", p, ifSo(index+int64(n) <= maxIndex))
		}
	}
	terms := []int64{math.MinInt64, -1, 0, 1, 2, maxTerm - 1, maxTerm, maxTerm + 1, math.MaxInt64}
	for _, x := range terms {
		for _, y := range terms {
			for _, z := range terms {
				p := slips(2, y, z)
				p.Wire.LogTerm = x
				checks(t, "Terms", p, ifSo(0 <= x && x <= y && y <= z && z <= maxTerm))
			}
		}
	}
	for i := range maxSlips {
		p := slips(maxSlips, 4)
		p.Wire.Entries[i].Term = 3
		checks(t, "one that falls", p, api.ErrPost)
		p = slips(maxSlips, 5)
		p.Wire.Entries[i].Term = 6
		checks(t, "one that rises", p, ifSo(i == maxSlips-1))
	}
}

func TestP14_1HowLongTextsAre(t *testing.T) {
	for _, n := range []int{0, 65536, 65537, mostEntry - 1, mostEntry, mostEntry + 1, mostEntry + 2, mostText, 1 << 20} {
		for i := range 3 {
			p := some()
			p.Wire.Entries[i].Text = a(n)
			checks(t, "an entry's Text", p, ifSo(n <= mostEntry))
		}
	}
	for _, n := range []int{0, mostEntry, mostEntry + 1, mostText - 1, mostText, mostText + 1, mostText + 2, 1 << 20} {
		p := snap()
		p.Wire.Text = a(n)
		checks(t, "the Text", p, ifSo(n <= mostText))
	}
}

func TestP14_1WhoIsGone(t *testing.T) {
	for _, id := range []int64{math.MinInt64, -1, 0, 1, 2, 11, maxId - 1, maxId, maxId + 1, math.MaxInt64 - 1, math.MaxInt64} {
		for _, next := range []int64{math.MinInt64, -1, 0, 1, 2, 3, 10, 11, 12, 13, maxId - 1, maxId, maxId + 1, maxId + 2, math.MaxInt64} {
			p := gone()
			p.Id, p.Next = id, next
			checks(t, "gone", p, ifSo(1 <= id && id <= maxId && id < next && next <= maxId+1))
		}
	}
}

func TestP14_1WhatIsAsked(t *testing.T) {
	for _, o := range orders() {
		checks(t, "an order", api.Packet{Kind: api.PkAsk, To: 7, Range: 1, Order: o}, api.OK)
	}
	for _, o := range append(noOrders(), api.Order{}) {
		checks(t, "no order", api.Packet{Kind: api.PkAsk, To: 7, Range: 1, Order: o}, api.ErrPost)
	}
	for from := 1; from <= maxNode; from++ {
		checks(t, "a client is no node", set(ask(), "From", int64(from)), api.ErrPost)
		checks(t, "a client is no node", set(done(), "To", int64(from)), api.ErrPost)
	}
}

func TestP14_1WhatIsTold(t *testing.T) {
	for status := -1; status <= 5; status++ {
		is := status == api.StDone || status == api.StNot || status == api.StNone
		p := tell(status)
		checks(t, "a Status", p, ifSo(is))
		for _, name := range []string{"Client", "Seq"} {
			numbers(t, p, name, map[int64]api.Errno{-1: api.ErrPost, 0: api.ErrPost, 1: ifSo(is), maxSeq: ifSo(is), maxSeq + 1: api.ErrPost})
		}
		for hint := -1; hint <= 9; hint++ {
			p.Hint = hint
			checks(t, "a Hint", p, ifSo(is && (hint == 0 || status == api.StNot && 0 < hint && hint <= maxNode)))
		}
		p.Hint = 0
		for _, r := range replies() {
			p.Reply = r
			zero := equal(p, tell(status))
			checks(t, "a Reply", p, ifSo(is && (zero || status == api.StDone)))
		}
		for _, r := range noReplies() {
			p.Reply = r
			checks(t, "no Reply", p, api.ErrPost)
		}
	}
	p := done()
	p.Hint = 1
	checks(t, "a Hint and a Reply", p, api.ErrPost)
	p.Status = api.StNot
	checks(t, "a Hint and a Reply", p, api.ErrPost)
}

// Some fields at once are numbers that may be and that may not be.
func TestP14_1RandomPackets(t *testing.T) {
	r := rand.New(rand.NewPCG(14, 1))
	seen := map[api.Errno]int{}
	all, fields, numbers := append(right(), wrong()...), numberNames(), wild()
	for range 60000 {
		c := all[r.IntN(len(all))]
		p := copied(c.p)
		for range r.IntN(3) {
			at(&p, fields[r.IntN(len(fields))]).SetInt(numbers[r.IntN(len(numbers))])
		}
		if r.IntN(8) == 0 {
			p.Wire.Entries = entries(r.Int64N(9), r.Int64N(9))
		}
		want := ifSo(may(p))
		seen[want]++
		checks(t, c.name, p, want)
	}
	if seen[api.OK] < 5000 || seen[api.ErrPost] < 5000 {
		t.Errorf("just %v", seen)
	}
}

// same holds what Same says of two packets, either way round, against what it
// should.
func same(t *testing.T, what string, p, o api.Packet, want bool) {
	t.Helper()
	x, y := roomy(p), roomy(o)
	if post.Same(x, y) != want || post.Same(y, x) != want {
		t.Errorf("%s: Same of %s and %s is not %t", what, show(p), show(o), want)
	}
	untouched(t, what, x, p)
	untouched(t, what, y, o)
}

func TestP14_3Same(t *testing.T) {
	for _, c := range slices.Concat(right(), great(), wrong()) {
		same(t, c.name, c.p, copied(c.p), true)
	}
}

// full is a packet in which no field is zero.
func full() api.Packet {
	p := some()
	p.Wire.Reject, p.Wire.Text = true, "t"
	p.Id, p.Next, p.Client, p.Seq, p.Status, p.Hint = 11, 14, 21, 22, 2, 4
	p.Order = api.Order{Kind: 1, Client: 2, Seq: 3, Key: "k", To: "t", Value: "v", Old: "o", Has: true, Limit: 4, Id: 5, Node: 6}
	p.Reply = reply()
	return p
}

func TestP14_3UnlikeInOneThing(t *testing.T) {
	for _, p := range []api.Packet{{}, some(), snap(), gone(), ask(), done(), not(), full()} {
		for _, o := range others(p) {
			same(t, o.name, p, o.p, false)
			same(t, o.name, o.p, copied(o.p), true)
		}
	}
}

func TestP14_3UnlikeInOneEntry(t *testing.T) {
	p := slips(maxSlips, 4)
	for i := range maxSlips {
		for _, change := range []func(e *api.Entry){
			func(e *api.Entry) { e.Term = 5 }, func(e *api.Entry) { e.Term = 1<<32 + 4 }, func(e *api.Entry) { e.Text = "" }, func(e *api.Entry) { e.Text += "x" },
		} {
			same(t, "an entry", p, with(p, func(p *api.Packet) { change(&p.Wire.Entries[i]) }), false)
		}
		same(t, "shorter", p, with(p, func(p *api.Packet) { p.Wire.Entries = p.Wire.Entries[:i] }), false)
		same(t, "one less", p, with(p, func(p *api.Packet) { p.Wire.Entries = slices.Delete(p.Wire.Entries, i, i+1) }), false)
	}
	q := with(p, func(p *api.Packet) { slices.Reverse(p.Wire.Entries) })
	same(t, "the other way round", p, q, false)
}

func TestP14_3ListsOfNoLength(t *testing.T) {
	for _, c := range plain() {
		p := c.p
		if len(p.Wire.Entries) == 0 {
			p.Wire.Entries = []api.Entry{}
		}
		if len(p.Reply.Pairs) == 0 {
			p.Reply.Pairs = []api.Pair{}
		}
		if !post.Same(p, c.p) || !post.Same(c.p, p) {
			t.Errorf("%s: nil is another one than an empty list", c.name)
		}
		p.Wire.Entries, p.Reply.Pairs = make([]api.Entry, 0, 5), make([]api.Pair, 0, 5)
		want := len(c.p.Wire.Entries) == 0 && len(c.p.Reply.Pairs) == 0
		same(t, c.name, c.p, p, want)
	}
}

func TestP14_3AllWithAll(t *testing.T) {
	l := append(right(), wrong()...)
	for i, x := range l {
		for _, y := range l[i:] {
			if want := equal(x.p, y.p); post.Same(x.p, y.p) != want {
				t.Errorf("Same of %s and %s is not %t", show(x.p), show(y.p), want)
			}
		}
	}
}

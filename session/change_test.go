package session_test

import (
	"math/rand/v2"
	"slices"
	"strconv"
	"testing"

	"furlong/api"
	"furlong/session"
)

// notes holds what a note comes to against what it should be, and what was
// handed in against what it was.
func notes(t *testing.T, l []api.Session, s api.Session, want []api.Session, wantE api.Errno) {
	t.Helper()
	in, one := roomy(l), roomy([]api.Session{s})
	got, e := session.Note(in, one[0])
	wants(t, "Note of "+show(s)+" in "+show(l), got, e, want, wantE)
	scribble(got)
	alone(t, "Note", in, l)
	alone(t, "Note", one, []api.Session{s})
}

// merges does so of a merge.
func merges(t *testing.T, a, b, want []api.Session, wantE api.Errno) {
	t.Helper()
	x, y := roomy(a), roomy(b)
	got, e := session.Merge(x, y)
	wants(t, "Merge of "+show(a)+" and "+show(b), got, e, want, wantE)
	scribble(got)
	alone(t, "Merge", x, a)
	alone(t, "Merge", y, b)
}

// merged is what a merge comes to, by a map: whose each client's later session
// is.
func merged(a, b []api.Session) ([]api.Session, api.Errno) {
	all := map[int64]api.Session{}
	for _, s := range slices.Concat(b, a) {
		if o, there := all[s.Client]; !there || s.Seq >= o.Seq {
			all[s.Client] = s
		}
	}
	if len(all) > maxClients {
		return nil, api.ErrMany
	}
	var l []api.Session
	for _, s := range all {
		l = append(l, s)
	}
	slices.SortFunc(l, func(a, b api.Session) int { return int(a.Client - b.Client) })
	return l, api.OK
}

func TestP8_3NoteOfAClientThatThereIs(t *testing.T) {
	for i, s := range some() {
		for _, seq := range []int64{s.Seq, s.Seq + 1, s.Seq + 100, maxSeq - 1, maxSeq} {
			for _, r := range []api.Reply{{}, s.Reply, {Value: "new"}, {Code: api.ReBad, Err: 7, Has: true, Value: a(512)}} {
				n := api.Session{Client: s.Client, Seq: seq, Reply: r}
				notes(t, some(), n, with(some(), func(l []api.Session) { l[i] = n }), api.OK)
			}
		}
	}
}

func TestP8_3NoteOfWhatIsOld(t *testing.T) {
	for _, s := range some() {
		for _, seq := range []int64{1, 2, 4, s.Seq - 1} {
			if seq > 0 && seq < s.Seq {
				notes(t, some(), of(s.Client, seq, "old"), some(), api.OK)
			}
		}
	}
	last := []api.Session{of(3, maxSeq, "v")}
	notes(t, last, of(3, maxSeq-1, "old"), last, api.OK)
	notes(t, last, of(3, 1, "old"), last, api.OK)
}

func TestP8_3NoteOfAClientThatThereIsNot(t *testing.T) {
	for _, c := range []struct {
		client int64
		at     int
	}{{1, 0}, {2, 0}, {4, 1}, {6, 2}, {7, 2}, {8, 2}, {10, 3}, {1 << 33, 3}, {maxSeq, 3}} {
		for _, seq := range []int64{1, 5, maxSeq} {
			s := of(c.client, seq, "new")
			notes(t, some(), s, slices.Insert(some(), c.at, s), api.OK)
		}
	}
	for _, client := range []int64{1, 2, maxSeq} {
		one := of(client, 1, "v")
		notes(t, nil, one, []api.Session{one}, api.OK)
		notes(t, []api.Session{}, one, []api.Session{one}, api.OK)
	}
}

func TestP8_3NoteWithAsManyAsMayBe(t *testing.T) {
	for i := range 63 {
		l := slices.Delete(row(2, 64), i, i+1)
		notes(t, l, row(2, 64)[i], row(2, 64), api.OK)
	}
	notes(t, row(2, 63), of(1, 1, "v"), append([]api.Session{of(1, 1, "v")}, row(2, 63)...), api.OK)
	l := row(2, 64)
	for i, s := range l {
		for _, seq := range []int64{10, 11, maxSeq} {
			n := of(s.Client, seq, "new")
			notes(t, l, n, with(l, func(l []api.Session) { l[i] = n }), api.OK)
		}
		notes(t, l, of(s.Client, 9, "old"), l, api.OK)
	}
	gap := slices.Delete(row(2, 65), 30, 31)
	for _, client := range []int64{1, 32, 67, 100, maxSeq} {
		for _, seq := range []int64{1, 10, maxSeq} {
			notes(t, gap, of(client, seq, "new"), nil, api.ErrMany)
		}
	}
}

func TestP8_3NoteOfASessionThatMayNotBe(t *testing.T) {
	for _, s := range wrongOnes() {
		for _, l := range [][]api.Session{nil, some(), row(5, 64), row(1, 64), {of(4, 4, "v")}, {of(4, maxSeq, "v")}, {of(4, 1, "v")}} {
			notes(t, l, s, nil, api.ErrSession)
		}
	}
}

func TestP8_3NoteOfAllThatMayBe(t *testing.T) {
	for _, c := range right() {
		for _, s := range c.l {
			notes(t, c.l, s, c.l, api.OK)
			one := []api.Session{s}
			notes(t, nil, s, one, api.OK)
			want, e := merged(one, row(3, 20))
			notes(t, row(3, 20), s, want, e)
		}
		for _, s := range []api.Session{of(1, 1, "n"), of(4, 4, "n"), of(5, 5, "n"), of(maxSeq, maxSeq, "n")} {
			want, e := merged([]api.Session{s}, c.l)
			notes(t, c.l, s, want, e)
		}
	}
}

// Of sessions that may not be there is an answer, and they stay as they were.
func TestP8_3NoteInWhatMayNotBe(t *testing.T) {
	for _, c := range wrong() {
		for _, s := range []api.Session{of(1, 1, "v"), of(4, 4, "v"), of(maxSeq, maxSeq, "v"), {}, {Client: 4, Seq: 4, Reply: api.Reply{Pairs: []api.Pair{{Key: "k"}}}}} {
			in := roomy(c.l)
			got, e := session.Note(in, s)
			if e != api.OK && got != nil {
				t.Errorf("%s: %s beside %d", c.name, show(got), e)
			}
			if may([]api.Session{s}) != (e != api.ErrSession) {
				t.Errorf("%s: %d of %s", c.name, e, show(s))
			}
			scribble(got)
			alone(t, c.name, in, c.l)
		}
	}
}

func TestP8_4MergeOfNone(t *testing.T) {
	merges(t, nil, nil, nil, api.OK)
	merges(t, []api.Session{}, nil, nil, api.OK)
	merges(t, nil, []api.Session{}, nil, api.OK)
	for _, c := range right() {
		merges(t, c.l, nil, c.l, api.OK)
		merges(t, nil, c.l, c.l, api.OK)
		merges(t, []api.Session{}, c.l, c.l, api.OK)
		merges(t, c.l, c.l, c.l, api.OK)
	}
}

func TestP8_4MergeIsTheLaterOfEach(t *testing.T) {
	for _, c := range []struct{ a, b, want []api.Session }{
		{[]api.Session{of(1, 1, "a")}, []api.Session{of(2, 1, "b")}, []api.Session{of(1, 1, "a"), of(2, 1, "b")}},
		{[]api.Session{of(2, 1, "a")}, []api.Session{of(1, 1, "b")}, []api.Session{of(1, 1, "b"), of(2, 1, "a")}},
		{[]api.Session{of(1, 1, "a")}, []api.Session{of(1, 2, "b")}, []api.Session{of(1, 2, "b")}},
		{[]api.Session{of(1, 2, "a")}, []api.Session{of(1, 1, "b")}, []api.Session{of(1, 2, "a")}},
		{[]api.Session{of(1, maxSeq, "a")}, []api.Session{of(1, maxSeq-1, "b")}, []api.Session{of(1, maxSeq, "a")}},
		{[]api.Session{of(1, 1, "a")}, []api.Session{of(1, maxSeq, "b")}, []api.Session{of(1, maxSeq, "b")}},
		{
			[]api.Session{of(1, 1, "a"), of(3, 3, "a"), of(5, 5, "a")}, []api.Session{of(2, 2, "b"), of(4, 4, "b"), of(6, 6, "b")},
			[]api.Session{of(1, 1, "a"), of(2, 2, "b"), of(3, 3, "a"), of(4, 4, "b"), of(5, 5, "a"), of(6, 6, "b")},
		},
		{
			[]api.Session{of(1, 1, "a"), of(3, 3, "a"), of(5, 5, "a")}, []api.Session{of(1, 2, "b"), of(3, 2, "b"), of(4, 4, "b"), of(5, 6, "b")},
			[]api.Session{of(1, 2, "b"), of(3, 3, "a"), of(4, 4, "b"), of(5, 6, "b")},
		},
		{
			[]api.Session{of(1, 9, "a"), of(maxSeq, 9, "a")}, []api.Session{of(2, 1, "b"), of(maxSeq-1, 1, "b"), of(maxSeq, 8, "b")},
			[]api.Session{of(1, 9, "a"), of(2, 1, "b"), of(maxSeq-1, 1, "b"), of(maxSeq, 9, "a")},
		},
	} {
		merges(t, c.a, c.b, c.want, api.OK)
		merges(t, c.b, c.a, c.want, api.OK)
	}
}

func TestP8_4MergeTakesTheFirstOfTheSameSeq(t *testing.T) {
	for i, s := range some() {
		for _, r := range []api.Reply{{}, {Value: "other"}, {Code: api.ReOld}, {Has: true}, {Code: api.ReBad, Err: 1, Value: a(512)}} {
			other := with(some(), func(l []api.Session) { l[i] = api.Session{Client: s.Client, Seq: s.Seq, Reply: r} })
			merges(t, some(), other, some(), api.OK)
			merges(t, other, some(), other, api.OK)
			merges(t, []api.Session{other[i]}, some(), other, api.OK)
			merges(t, some(), []api.Session{other[i]}, some(), api.OK)
		}
	}
}

func TestP8_4MergeOfAsManyAsMayBe(t *testing.T) {
	for n := range 65 {
		l := row(1, 64)
		merges(t, l[:n], l[n:], l, api.OK)
		merges(t, l[n:], l[:n], l, api.OK)
		merges(t, l, l[n:], l, api.OK)
		more := row(1, 65)
		merges(t, more[:n], more[n:], nil, api.ErrMany)
		merges(t, more[n:], more[:n], nil, api.ErrMany)
		merges(t, more[:64], more[n:], nil, api.ErrMany)
		merges(t, more[1:], more[:n+1], nil, api.ErrMany)
	}
	merges(t, row(1, 64), row(65, 64), nil, api.ErrMany)
	merges(t, row(65, 64), row(1, 64), nil, api.ErrMany)
	merges(t, row(1, 64), row(2, 64), nil, api.ErrMany)
}

func TestP8_4MergeOfAllThatMayBe(t *testing.T) {
	l := right()
	for i, c := range l {
		for _, o := range []named{l[(i+1)%len(l)], l[(i+7)%len(l)], l[(i*5+3)%len(l)], {"a row", row(2, 30)}} {
			want, e := merged(c.l, o.l)
			merges(t, c.l, o.l, want, e)
			want, e = merged(o.l, c.l)
			merges(t, o.l, c.l, want, e)
		}
	}
}

func TestP8_4MergeOfAny(t *testing.T) {
	rnd := rand.New(rand.NewPCG(8, 4))
	for range 20000 {
		a, b := drawn(rnd, "a"), drawn(rnd, "b")
		want, e := merged(a, b)
		merges(t, a, b, want, e)
	}
}

// drawn are sessions of some clients, of which another list has some too.
func drawn(rnd *rand.Rand, value string) []api.Session {
	var l []api.Session
	for client := int64(1 + rnd.IntN(30)); len(l) < rnd.IntN(65); client += int64(1 + rnd.IntN(3)) {
		l = append(l, of(client, int64(1+rnd.IntN(4)), value+strconv.Itoa(len(l))))
	}
	return l
}

// Of sessions that may not be there is an answer, and they stay as they were.
func TestP8_4MergeOfWhatMayNotBe(t *testing.T) {
	for _, c := range wrong() {
		for _, o := range [][]api.Session{nil, some(), row(1, 64), c.l} {
			for _, p := range [][2][]api.Session{{c.l, o}, {o, c.l}} {
				x, y := roomy(p[0]), roomy(p[1])
				got, e := session.Merge(x, y)
				if e != api.OK && (got != nil || e != api.ErrMany) {
					t.Errorf("%s: %s %d", c.name, show(got), e)
				}
				scribble(got)
				alone(t, c.name, x, p[0])
				alone(t, c.name, y, p[1])
			}
		}
	}
}

// never fails, if one of the clients of l has a lesser Seq in now, or none.
func never(t *testing.T, l, now []api.Session) {
	t.Helper()
	for _, s := range l {
		if n, there := session.Find(now, s.Client); !there || n.Seq < s.Seq {
			t.Errorf("client %d had Seq %d, and has %d", s.Client, s.Seq, n.Seq)
		}
	}
}

func TestP8_6NeverBack(t *testing.T) {
	rnd := rand.New(rand.NewPCG(8, 6))
	for range 500 {
		var l []api.Session
		for range 60 {
			s := of(int64(1+rnd.IntN(70)), int64(1+rnd.IntN(9)), "v")
			now, e := session.Note(l, s)
			if e == api.ErrMany {
				continue
			}
			never(t, l, now)
			never(t, []api.Session{s}, now)
			if e != api.OK || session.Check(now) != api.OK {
				t.Fatalf("%s: %d", show(now), e)
			}
			l = now
		}
		o := drawn(rnd, "o")
		if m, e := session.Merge(l, o); e == api.OK {
			never(t, l, m)
			never(t, o, m)
			if session.Check(m) != api.OK {
				t.Fatal(show(m))
			}
		}
	}
}

func TestP8_6MergeIsTheSameBothWaysRound(t *testing.T) {
	rnd := rand.New(rand.NewPCG(8, 66))
	for range 5000 {
		a, b := drawn(rnd, "a"), drawn(rnd, "b")
		// No two that have the same client and the same Seq.
		for i := range a {
			a[i].Seq = 2 * a[i].Seq
		}
		for i := range b {
			b[i].Seq = 2*b[i].Seq + 1
		}
		one, e := session.Merge(a, b)
		other, o := session.Merge(b, a)
		wants(t, "the other way round", other, o, one, e)
	}
}

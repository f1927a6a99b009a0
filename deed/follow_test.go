package deed_test

import (
	"math/rand/v2"
	"slices"
	"strconv"
	"testing"

	"furlong/api"
	"furlong/bound"
	"furlong/deed"
	"furlong/desc"
)

// frozen is p, frozen.
func frozen(p api.Plot) api.Plot {
	return with(p, func(p *api.Plot) { p.Frozen = true })
}

// drawn is a plot with some pairs.
func drawn(rnd *rand.Rand) api.Plot {
	p := some()
	if rnd.IntN(3) == 0 {
		p.Desc.Bound = api.Bound{}
	}
	p.Pairs = nil
	for range rnd.IntN(40) {
		p = deed.Set(p, api.Change{Key: key(rnd), Value: strconv.Itoa(rnd.IntN(1000))})
	}
	return p
}

// key is a key between c and p.
func key(rnd *rand.Rand) string {
	k := string([]byte{'c' + byte(rnd.IntN('p'-'c'))})
	for range rnd.IntN(3) {
		k += string([]byte{[]byte{0, 'a', 255}[rnd.IntN(3)]})
	}
	return k
}

func TestP9_6CutAndJoined(t *testing.T) {
	rnd := rand.New(rand.NewPCG(9, 6))
	count := 0
	for range 3000 {
		p, k := drawn(rnd), key(rnd)
		l, r, e := deed.Cut(p, k, 20)
		if e != api.OK {
			continue
		}
		count++
		if deed.Check(l) != api.OK || deed.Check(r) != api.OK {
			t.Fatalf("cut at %q: %s, %s", k, show(l), show(r))
		}
		j, e := deed.Join(l, frozen(r))
		want := with(p, func(p *api.Plot) {
			p.Desc.Gen += 2
			p.Eaten = append(p.Eaten, 20)
		})
		wants(t, "cut and joined", j, e, want, api.OK)
		if deed.Check(j) != api.OK {
			t.Fatal(show(j))
		}
	}
	if count < 2000 {
		t.Error(count)
	}
}

// found holds what is found of a key in both parts against what was there.
func found(t *testing.T, p, l, r api.Plot, k string) {
	t.Helper()
	v, there := deed.Get(p, k)
	for _, part := range []api.Plot{l, r} {
		got, ok := deed.Get(part, k)
		in := bound.Has(part.Desc.Bound, k)
		if in && (got != v || ok != there) || !in && ok {
			t.Errorf("%q in %s: %q %t", k, show(part.Desc.Bound), got, ok)
		}
	}
}

func TestP9_6EveryKeyIsInJustOnePart(t *testing.T) {
	rnd := rand.New(rand.NewPCG(9, 66))
	for range 1000 {
		p, k := drawn(rnd), key(rnd)
		l, r, e := deed.Cut(p, k, 20)
		if e != api.OK {
			continue
		}
		for _, x := range p.Pairs {
			found(t, p, l, r, x.Key)
			if bound.Has(l.Desc.Bound, x.Key) == bound.Has(r.Desc.Bound, x.Key) {
				t.Errorf("%q is in both, or in none", x.Key)
			}
		}
		for range 20 {
			found(t, p, l, r, key(rnd))
		}
		found(t, p, l, r, k)
		if len(l.Pairs)+len(r.Pairs) != len(p.Pairs) {
			t.Errorf("%d and %d pairs of %d", len(l.Pairs), len(r.Pairs), len(p.Pairs))
		}
	}
}

// What is done to the parts in between is there behind the join.
func TestP9_6CutAndChangedAndJoined(t *testing.T) {
	rnd := rand.New(rand.NewPCG(9, 666))
	for range 500 {
		p := drawn(rnd)
		l, r, e := deed.Cut(p, "h", 20)
		if e != api.OK {
			t.Fatal(e)
		}
		want := p
		for range 20 {
			c := api.Change{Key: key(rnd), Value: "new"}
			if rnd.IntN(2) == 0 {
				c = api.Change{Key: c.Key, Gone: true}
			}
			want = done(want, c)
			if c.Key < "h" {
				l = deed.Set(l, c)
			} else {
				r = deed.Set(r, c)
			}
		}
		j, e := deed.Join(l, frozen(r))
		if e != api.OK || !slices.Equal(j.Pairs, want.Pairs) || j.Desc.Bound != p.Desc.Bound {
			t.Fatalf("%s %d, not %s", show(j), e, show(want))
		}
	}
}

// A range that was joined is never joined again, however often both are cut.
func TestP9_6EatenForGood(t *testing.T) {
	p := with(some(), func(p *api.Plot) { p.Eaten = nil })
	var gone []api.Plot
	for id := int64(20); id < 220; id++ {
		l, r, e := deed.Cut(p, "h", id)
		if e != api.OK {
			t.Fatal(e)
		}
		for _, o := range gone {
			if _, e := deed.Join(l, o); e != api.ErrThere {
				t.Fatalf("range %d again: %d", o.Desc.Id, e)
			}
		}
		r = frozen(r)
		if p, e = deed.Join(l, r); e != api.OK {
			t.Fatalf("range %d: %d", id, e)
		}
		gone = append(gone, r)
	}
	if len(p.Eaten) != 200 || deed.Check(p) != api.OK {
		t.Fatal(show(p))
	}
	l, r, _ := deed.Cut(p, "h", 300)
	if _, e := deed.Join(l, frozen(r)); e != api.ErrMany {
		t.Error(e)
	}
}

// A plot that went through its text is cut and joined as it would have been.
func TestP9_6ByItsText(t *testing.T) {
	rnd := rand.New(rand.NewPCG(9, 6666))
	for range 300 {
		p := drawn(rnd)
		l, r, e := deed.Cut(p, "h", 20)
		if e != api.OK {
			t.Fatal(e)
		}
		want, _ := deed.Join(l, frozen(r))
		x, e1 := deed.Parse(deed.Put(l))
		y, e2 := deed.Parse(deed.Put(frozen(r)))
		if e1 != api.OK || e2 != api.OK {
			t.Fatal(e1, e2)
		}
		got, e := deed.Join(x, y)
		wants(t, "by their texts", got, e, want, api.OK)
	}
}

// The chapter's own example.
func TestP9_6Example(t *testing.T) {
	d, _ := desc.First(1, 2, 3)
	p := api.Plot{Desc: d, Pairs: pairs("a", "m"), Alloc: 1}
	l, r, e := deed.Cut(p, "k", 2)
	if e != api.OK || !slices.Equal(l.Pairs, pairs("a")) || !slices.Equal(r.Pairs, pairs("m")) {
		t.Fatal(show(l), show(r), e)
	}
	j, e := deed.Join(l, frozen(r))
	if e != api.OK || !slices.Equal(j.Pairs, pairs("a", "m")) || !slices.Equal(j.Eaten, []int64{2}) {
		t.Error(show(j), e)
	}
}

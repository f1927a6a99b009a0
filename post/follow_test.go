package post_test

import (
	"math/rand/v2"
	"testing"

	"furlong/api"
	"furlong/post"
)

func TestP14_4ThereAndBack(t *testing.T) {
	for _, c := range append(right(), great()...) {
		s, e := post.Put(c.p)
		if e != api.OK {
			t.Errorf("%s: Put: %d", c.name, e)
		}
		p, e := post.Parse(s)
		if e != api.OK || !post.Same(p, c.p) || !equal(p, c.p) {
			t.Errorf("%s: %s is %s behind Put and Parse, %d", c.name, show(c.p), show(p), e)
		}
		if again, e := post.Put(p); e != api.OK || again != s {
			t.Errorf("%s: Put, Parse and Put: another text, %d", c.name, e)
		}
	}
}

func TestP14_4UnlikePacketsHaveUnlikeTexts(t *testing.T) {
	texts := map[string]api.Packet{}
	add := func(p api.Packet) {
		s, e := post.Put(p)
		if e != api.OK {
			return
		}
		if o, there := texts[s]; there && !equal(o, p) {
			t.Errorf("%s and %s have one text", show(o), show(p))
		}
		texts[s] = p
	}
	for _, c := range right() {
		add(c.p)
	}
	for _, c := range plain() {
		for _, o := range others(c.p) {
			add(o.p)
		}
	}
	if len(texts) < 200 {
		t.Errorf("just %d texts", len(texts))
	}
}

// spoils fails, if there is a packet of s with another byte at i.
func spoils(t *testing.T, s string, i int, b byte) {
	t.Helper()
	l := []byte(s)
	l[i] = b
	if p, e := post.Parse(string(l)); e != api.ErrPost || !equal(p, api.Packet{}) {
		t.Fatalf("byte %d of %.600q as %d: %s %d", i, s, b, show(p), e)
	}
}

func TestP14_4OneByteIsAnotherOne(t *testing.T) {
	for _, c := range plain() {
		s, e := post.Put(c.p)
		if e != api.OK {
			t.Fatal(e)
		}
		for i := range s {
			for turn := 1; turn < 256; turn++ {
				spoils(t, s, i, s[i]^byte(turn))
			}
		}
	}
}

func TestP14_4OneByteOfALongTextIsAnotherOne(t *testing.T) {
	r := rand.New(rand.NewPCG(14, 4))
	for _, c := range great()[:4] {
		s, e := post.Put(c.p)
		if e != api.OK {
			t.Fatal(e)
		}
		for range 50 {
			i := r.IntN(len(s))
			spoils(t, s, i, s[i]^byte(1+r.IntN(255)))
		}
		for i := len(s) - 40; i < len(s); i++ {
			spoils(t, s, i, s[i]^1)
		}
	}
}

package shelf_test

import (
	"strings"
	"testing"

	"furlong/api"
	"furlong/ledger"
	"furlong/shelf"
)

func TestP5_1TextsByteByByte(t *testing.T) {
	r := made(t, room)
	s := opened(t, r, world{}, 0)
	must(t, "Commit", s.Commit(put("b", "2"), put("a", "")), api.OK)
	must(t, "Commit", s.Commit(gone("b")), api.OK)
	must(t, "Commit", s.Commit(put("cd", "0:,")), api.OK)
	kept(t, r, "", "12:1:b,1:0,1:2,,11:1:a,1:0,0:,,", "11:1:b,1:1,0:,,", "15:2:cd,1:0,3:0:,,,")
	s = opened(t, r, world{"a": "", "cd": "0:,"}, 3)
	must(t, "Pack", s.Pack(), api.OK)
	kept(t, r, "11:1:a,1:0,0:,,15:2:cd,1:0,3:0:,,,")
}

// texts are such as might be taken for something else.
func texts() []string {
	every := make([]byte, 256)
	for i := range every {
		every[i] = byte(i)
	}
	return []string{
		"a", "b", "ab", ",", ":", "0", "1", "0:,", "1:a,", "-1", "\x00", "\x00\x00", "\n", "\xff", "\u20ac",
		string(every[:api.MaxName]), string(every[api.MaxName:]), strings.Repeat("0:,", 42), text(put("a", "b")), text(gone("a")),
	}
}

func TestP5_1AnyKeysAndValues(t *testing.T) {
	r := made(t, room)
	s := opened(t, r, world{}, 0)
	w := world{}
	records := 0
	for _, v := range append(texts(), "") {
		var l []api.Change
		for _, k := range texts() {
			l = append(l, put(k, v+k))
		}
		must(t, "Commit", s.Commit(l...), api.OK)
		w = w.after(l...)
		records++
		has(t, s, w, records)
	}
	s = opened(t, r, w, records)
	must(t, "Pack", s.Pack(), api.OK)
	s = opened(t, r, w, 0)
	for i, k := range texts() {
		must(t, "Commit", s.Commit(gone(k)), api.OK)
		w = w.after(gone(k))
		has(t, s, w, i+1)
	}
	opened(t, r, world{}, len(texts()))
}

// trial is a change, and whether it may be.
type trial struct {
	c  api.Change
	ok bool
}

func trials() []trial {
	name, thing := strings.Repeat("k", api.MaxName), strings.Repeat("v", api.MaxThing)
	return []trial{
		{api.Change{}, false},
		{put("", "x"), false},
		{gone(""), false},
		{api.Change{Value: "x", Gone: true}, false},
		{put("a", ""), true},
		{put("a", "x"), true},
		{put("\x00", "\x00"), true},
		{gone("a"), true},
		{gone("not there"), true},
		{api.Change{Key: "a", Value: "x", Gone: true}, false},
		{api.Change{Key: "a", Value: "\x00", Gone: true}, false},
		{api.Change{Key: "a", Value: thing, Gone: true}, false},
		{put(name[1:], "x"), true},
		{put(name, "x"), true},
		{gone(name), true},
		{put(name+"k", "x"), false},
		{gone(name + "k"), false},
		{put(name+name, "x"), false},
		{put(thing, "x"), false},
		{put("a", thing[1:]), true},
		{put("a", thing), true},
		{put(name, thing), true},
		{put("a", thing+"v"), false},
		{put(name, thing+"v"), false},
		{put("a", thing+thing), false},
		{put("", thing+"v"), false},
	}
}

func TestP5_1WhatMayBeIsCommitted(t *testing.T) {
	for i, c := range trials() {
		r := made(t, api.MaxReel)
		s := opened(t, r, world{}, 0)
		if !c.ok {
			must(t, "Commit", s.Commit(c.c), api.ErrArg)
			has(t, s, world{}, 0)
			kept(t, r, "")
			continue
		}
		must(t, "Commit", s.Commit(c.c), api.OK)
		has(t, s, world{}.after(c.c), 1)
		kept(t, r, "", text(c.c))
		opened(t, r, world{}.after(c.c), 1)
		if t.Failed() {
			t.Fatalf("trial %d", i)
		}
	}
}

func TestP5_1WhatMayBeIsOpened(t *testing.T) {
	for i, c := range trials() {
		s := text(put("z", "9"), c.c)
		if len(s) > most {
			continue
		}
		base, record := laid(t, s), laid(t, "", s)
		if c.ok {
			opened(t, base, world{"z": "9"}.after(c.c), 0)
			opened(t, record, world{"z": "9"}.after(c.c), 1)
		} else {
			refused(t, base, api.ErrShelf)
			refused(t, record, api.ErrShelf)
		}
		if t.Failed() {
			t.Fatalf("trial %d", i)
		}
	}
}

// All orders of a few changes of few keys, at once and each by itself.
func TestP5_1OneBehindTheOther(t *testing.T) {
	some := []api.Change{put("a", "1"), put("a", "2"), gone("a"), put("b", "1"), gone("b")}
	for n := range 5 * 5 * 5 * 5 {
		l := []api.Change{some[n%5], some[n/5%5], some[n/25%5], some[n/125]}
		r := made(t, room)
		s := opened(t, r, world{}, 0)
		w := world{}.after(l...)
		must(t, "Commit", s.Commit(l...), api.OK)
		has(t, s, w, 1)
		kept(t, r, "", text(l...))
		opened(t, r, w, 1)
		r = made(t, room)
		s = opened(t, r, world{}, 0)
		for i, c := range l {
			must(t, "Commit", s.Commit(c), api.OK)
			has(t, s, world{}.after(l[:i+1]...), i+1)
		}
		opened(t, r, w, len(l))
		if t.Failed() {
			t.Fatal(l)
		}
	}
}

func TestP5_1AsChangesByRisingKeys(t *testing.T) {
	r := made(t, room)
	s := opened(t, r, world{}, 0)
	must(t, "Commit", s.Commit(put("b", "1"), put("ab", "2"), put("\xff", "3"), put("a", "4"), put("B", "5")), api.OK)
	must(t, "Commit", s.Commit(put("a\x00", "6"), put("c", "7"), gone("ab"), put("b", "8")), api.OK)
	must(t, "Pack", s.Pack(), api.OK)
	kept(t, r, text(put("B", "5"), put("a", "4"), put("a\x00", "6"), put("b", "8"), put("c", "7"), put("\xff", "3")))
}

func TestP5_1PackedAlikeHoweverItCame(t *testing.T) {
	l := many(500, 4, "v")
	back := make([]api.Change, len(l))
	for i, c := range l {
		back[len(l)-1-i] = c
	}
	for _, order := range [][]api.Change{l, back, append(append(back[:0:0], back[250:]...), back[:250]...)} {
		r := made(t, room)
		s, e := shelf.Open(r)
		must(t, "Open", e, api.OK)
		must(t, "Commit", s.Commit(order...), api.OK)
		must(t, "Pack", s.Pack(), api.OK)
		if _, b, _, _ := ledger.Open(r); b != text(l...) {
			t.Errorf("the base: %.300q", b)
		}
	}
}

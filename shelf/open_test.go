package shelf_test

import (
	"strings"
	"testing"

	"furlong/api"
	"furlong/ledger"
)

func TestP5_2NewShelf(t *testing.T) {
	r := made(t, room)
	s := opened(t, r, world{}, 0)
	if v, ok := s.Get("a"); v != "" || ok {
		t.Errorf("Get: %q, %v", v, ok)
	}
	kept(t, r, "")
	counted(t, r, 0, func() { opened(t, r, world{}, 0) })
}

// What is no ledger is wiped by the ledger: then there is an empty shelf.
func TestP5_2TapesWithoutALedger(t *testing.T) {
	for n := range api.Tapes {
		r := made(t, room)
		must(t, "Write", r.Write(n, text(put("a", "1"))), api.OK)
		opened(t, r, world{}, 0)
		kept(t, r, "")
	}
}

func TestP5_2ErrorsOfTheLedger(t *testing.T) {
	refused(t, nil, api.ErrNone)
	r := made(t, room)
	for n := range 2 {
		r.Arm(n)
		refused(t, r, api.ErrDead)
		refused(t, r, api.ErrDead)
		r.Crash(api.Tail{})
	}
	opened(t, r, world{}, 0)
	need := room - r.Free()
	refused(t, made(t, 0), api.ErrFull)
	refused(t, made(t, need-1), api.ErrFull)
	opened(t, made(t, need), world{}, 0)
}

// What is no shelf's is not looked at, where the ledger cannot be opened.
func TestP5_2ErrorOfTheLedgerComesAhead(t *testing.T) {
	r := laid(t, "junk", "junk")
	r.Arm(0)
	must(t, "Sync", r.Sync(0), api.ErrDead)
	refused(t, r, api.ErrDead)
	r.Crash(api.Tail{})
	refused(t, r, api.ErrShelf)
}

func TestP5_2BaseThenRecords(t *testing.T) {
	base := text(put("a", "1"), put("b", "2"), put("c", "3"))
	opened(t, laid(t, base), world{"a": "1", "b": "2", "c": "3"}, 0)
	r := laid(t, base, text(put("b", "4"), gone("c")), text(put("c", "5"), put("d", "6")), text(gone("a")))
	counted(t, r, 0, func() { opened(t, r, world{"b": "4", "c": "5", "d": "6"}, 3) })
	opened(t, laid(t, "", text(put("a", "1")), text(gone("a"))), world{}, 2)
	opened(t, laid(t, "", text(gone("a")), text(put("a", "1"))), world{"a": "1"}, 2)
	opened(t, laid(t, text(gone("a")), text(gone("b"))), world{}, 1)
}

// A base, too, is any changes: not only what Pack writes.
func TestP5_2BaseOfAnyChanges(t *testing.T) {
	r := laid(t, text(put("b", "1"), put("a", "2"), put("b", "3"), gone("a"), gone("c"), put("d", "4"), put("c", "5")))
	s := opened(t, r, world{"b": "3", "c": "5", "d": "4"}, 0)
	must(t, "Pack", s.Pack(), api.OK)
	kept(t, r, text(put("b", "3"), put("c", "5"), put("d", "4")))
}

// The text of no changes is no byte: Commit writes no such record, but it is
// one.
func TestP5_2NoChanges(t *testing.T) {
	opened(t, laid(t, "", "", text(put("a", "1")), ""), world{"a": "1"}, 3)
}

// foreign are texts that are no changes'.
func foreign() []string {
	good := change("a", "0", "x")
	return []string{
		"x", "\x00", " ", ",", ":", "0", "-1:,", "99:x,", "01:x,", "+1:x,",
		good[:len(good)-1], good[1:], good + "x", good + ",", " " + good, "0" + good, good + good[:len(good)-1],
		strand(""), strand("x"), strand("a0x"), strand(strand("")), strand(strand("a")), strand(strand("a") + strand("0")),
		strand(strand("a") + strand("0") + strand("x") + strand("")), strand(strand("a") + strand("0") + strand("x") + "y"), strand(good), strand(good + good),
		strand("a") + strand("0") + strand("x"), strand(strand("0") + strand("a") + strand("x")), strand(strand("a") + strand("x") + strand("0")),
		change("a", "", "x"), change("a", "", ""), change("a", "2", "x"), change("a", "-1", ""), change("a", "00", "x"), change("a", "01", ""), change("a", "10", ""),
		change("a", "true", ""), change("a", "false", "x"), change("a", "+1", ""), change("a", " 1", ""), change("a", "0 ", "x"), change("a", "\x00", "x"), change("a", "\x01", ""),
		change("", "0", "x"), change("", "0", ""), change("", "1", ""), change("a", "1", "x"), change("a", "1", "0"),
		change(strings.Repeat("k", api.MaxName+1), "0", "x"), change(strings.Repeat("k", api.MaxName+1), "1", ""), change("a", "0", strings.Repeat("v", api.MaxThing+1)),
		strings.Repeat(strand(""), 9), strings.Repeat("9", most-100), strings.Repeat(good, 9) + "9",
	}
}

func TestP5_2NoShelfs(t *testing.T) {
	good := text(put("b", "1"))
	for _, s := range foreign() {
		for _, r := range []struct {
			base    string
			records []string
		}{
			{s, nil}, {s, []string{good}}, {good, []string{s}}, {"", []string{s, good}}, {"", []string{good, good, s}}, {"", []string{good, s, good}},
			{good + s, nil}, {"", []string{good + s}},
		} {
			q := laid(t, r.base, r.records...)
			refused(t, q, api.ErrShelf)
			kept(t, q, r.base, r.records...)
		}
		if t.Failed() {
			t.Fatalf("%.200q", s)
		}
	}
}

// What takes back a change that may not be does not mend it.
func TestP5_2NotMendedByWhatComesBehind(t *testing.T) {
	long := strings.Repeat("k", api.MaxName+1)
	refused(t, laid(t, change(long, "0", "x")+change(long, "1", "")), api.ErrShelf)
	refused(t, laid(t, change("a", "1", "x"), text(put("a", "1"))), api.ErrShelf)
	refused(t, laid(t, "x", text(put("a", "1"))), api.ErrShelf)
}

func TestP5_2MostChangesOfAText(t *testing.T) {
	l := many(api.MaxStrands, 4, "")
	w := world{}.after(l...)
	opened(t, laid(t, text(l...)), w, 0)
	opened(t, laid(t, "", text(l...)), w, 1)
	l = many(api.MaxStrands+1, 4, "")
	refused(t, laid(t, text(l...)), api.ErrShelf)
	refused(t, laid(t, "", text(l...)), api.ErrShelf)
}

func TestP5_2LongestTexts(t *testing.T) {
	l := sized(t, most)
	opened(t, laid(t, text(l...)), world{}.after(l...), 0)
	opened(t, laid(t, "", text(l...)), world{}.after(l...), 1)
}

// A record that is not whole is none, and the shelf goes on ahead of it.
func TestP5_2TornRecord(t *testing.T) {
	whole := made(t, room)
	opened(t, whole, world{}, 0)
	at := room - whole.Free()
	s := opened(t, whole, world{}, 0)
	must(t, "Commit", s.Commit(put("a", "1")), api.OK)
	tape, _ := whole.Read(0)
	for n := at; n < len(tape); n++ {
		r := made(t, room)
		must(t, "Write", r.Write(0, tape[:n]), api.OK)
		s := opened(t, r, world{}, 0)
		must(t, "Commit", s.Commit(put("b", "2")), api.OK)
		opened(t, r, world{"b": "2"}, 1)
	}
}

func TestP5_2ShelvesShareNothing(t *testing.T) {
	r, q := made(t, room), made(t, room)
	s, p := opened(t, r, world{}, 0), opened(t, q, world{}, 0)
	must(t, "Commit", s.Commit(put("a", "1")), api.OK)
	must(t, "Commit", p.Commit(put("a", "2"), put("b", "3")), api.OK)
	must(t, "Pack", p.Pack(), api.OK)
	q.Arm(0)
	must(t, "Commit", p.Commit(gone("a")), api.ErrDead)
	has(t, s, world{"a": "1"}, 1)
	stands(t, p, world{"a": "2", "b": "3"}, 0, true)
	// One reel opened twice: what is there now is told, nothing later.
	first := opened(t, r, world{"a": "1"}, 1)
	must(t, "Commit", s.Commit(put("a", "9")), api.OK)
	has(t, first, world{"a": "1"}, 1)
}

// A ledger's own writing and a shelf's are alike.
func TestP5_2WhatALedgerWasGiven(t *testing.T) {
	r := made(t, room)
	l, _, _, e := ledger.Open(r)
	must(t, "Open of a ledger", e, api.OK)
	must(t, "Add", l.Add(text(put("a", "1"), put("b", "2"))), api.OK)
	s := opened(t, r, world{"a": "1", "b": "2"}, 1)
	must(t, "Commit", s.Commit(gone("a")), api.OK)
	kept(t, r, "", text(put("a", "1"), put("b", "2")), text(gone("a")))
}

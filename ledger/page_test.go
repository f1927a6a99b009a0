package ledger_test

import (
	"math/rand/v2"
	"strconv"
	"strings"
	"testing"

	"furlong/api"
)

// texts are such as might be taken for something else.
func texts() []string {
	every := make([]byte, 256)
	for i := range every {
		every[i] = byte(i)
	}
	return []string{"", "a", ",", ":", "0:,", "1:a,", "base", "rec", "00000001", "\x00", "\n", "\u20ac", string(every), base(9, "x"), rec(1, "x"), strings.Repeat("0:,", 5000)}
}

func TestP4_1PagesByteByByte(t *testing.T) {
	r := made(t, room)
	l := opened(t, r, 1, "")
	has(t, r, "22:4:base,1:1,0:,1d8e0394,", "")
	must(t, "Add", l.Add("a"), api.OK)
	has(t, r, "22:4:base,1:1,0:,1d8e0394,22:3:rec,1:1,1:a,1c630394,", "")
	must(t, "Base", l.Base("x"), api.OK)
	has(t, r, "", "23:4:base,1:2,1:x,21f0040e,")
	must(t, "Add", l.Add("b"), api.OK)
	has(t, r, "", "23:4:base,1:2,1:x,21f0040e,22:3:rec,1:1,1:b,1c650395,")
}

func TestP4_1PagesOfAnyText(t *testing.T) {
	r := made(t, room)
	l := opened(t, r, 1, "")
	for i, s := range texts() {
		must(t, "Base", l.Base(s), api.OK)
		for _, u := range texts() {
			must(t, "Add", l.Add(u), api.OK)
		}
		want := [api.Tapes]string{}
		want[(i+1)%2] = base(int64(i)+2, s) + recs(texts()...)
		has(t, r, want[:]...)
		opened(t, r, int64(i)+2, s, texts()...)
	}
}

// Cut off anywhere, a tape is right up to the last page that is whole.
func TestP4_1CutOff(t *testing.T) {
	list := []string{"one", "", "three"}
	whole := base(5, "the base") + recs(list...)
	for n := range api.Tapes {
		for end := range len(whole) + 1 {
			tapes := [api.Tapes]string{}
			tapes[n] = whole[:end]
			r := laid(t, tapes[:]...)
			if end < len(base(5, "the base")) {
				opened(t, r, 1, "")
				kept(t, r, base(1, ""), "")
				continue
			}
			there := 0
			for there < len(list) && len(base(5, "the base")+recs(list[:there+1]...)) <= end {
				there++
			}
			opened(t, r, 5, "the base", list[:there]...)
			tapes[n] = base(5, "the base") + recs(list[:there]...)
			kept(t, r, tapes[:]...)
		}
	}
}

// With any byte spoilt, a tape is right up to the page in which that is.
func TestP4_1Spoilt(t *testing.T) {
	list := []string{"one", "two", "three"}
	whole := base(5, "the base") + recs(list...)
	for at := range len(whole) {
		for _, turn := range []byte{1, 2, 32, 128, 255} {
			b := []byte(whole)
			b[at] ^= turn
			r := laid(t, string(b))
			if at < len(base(5, "the base")) {
				opened(t, r, 1, "")
				has(t, r, base(1, ""), "")
				continue
			}
			there := 0
			for len(base(5, "the base")+recs(list[:there+1]...)) <= at {
				there++
			}
			opened(t, r, 5, "the base", list[:there]...)
			has(t, r, base(5, "the base")+recs(list[:there]...), "")
		}
	}
}

func TestP4_1EpochsOf1To2To62(t *testing.T) {
	for _, n := range []int64{1, 2, 9, 10, 1 << 32, 1<<62 - 1, 1 << 62} {
		r := laid(t, base(n, "x")+recs("a", "b"))
		counted(t, r, 0, func() { opened(t, r, n, "x", "a", "b") })
	}
	for _, n := range []string{
		"0", "-1", "-2", "4611686018427387905", "9223372036854775807", "-9223372036854775808", "9223372036854775808", "18446744073709551617",
		"", "01", "+1", "-0", " 1", "1 ", "one", "1.0", "0x1",
	} {
		r := laid(t, page("base", n, "x")+recs("a", "b"))
		opened(t, r, 1, "")
		kept(t, r, base(1, ""), "")
	}
}

// none are texts with which no base and no second record begins.
func none() []string {
	tied := strand("rec") + strand("2") + strand("x")
	return []string{
		rec(0, "x"), rec(1, "x"), rec(3, "x"), rec(-2, "x"), rec(1<<32+2, "x"),
		page("rec", "02", "x"), page("rec", "+2", "x"), page("rec", "", "x"), page("rec", "two", "x"), page("rec", "2 ", "x"), page("rec", "18446744073709551618", "x"),
		page("record", "2", "x"), page("Rec", "2", "x"), page("rec ", "2", "x"), page("re", "2", "x"), page("note", "2", "x"), page("", "2", "x"),
		page("bas", "2", "x"), page("Base", "2", "x"), page("base ", "2", "x"),
		strand(sealed("")), strand(sealed("x")), strand(sealed(strand("rec"))), strand(sealed(strand("rec") + strand("2"))), strand(sealed(tied + strand(""))),
		strand(sealed(strand("2") + strand("rec") + strand("x"))), strand(sealed(strand("rec") + strand("x") + strand("2"))),
		strand(sealed(tied[:len(tied)-1])), strand(sealed(tied + "x")), strand(sealed(strand(tied))), strand(sealed(sealed(tied))),
		strand(tied), tied, sealed(tied), strand(tied + strings.ToUpper(sealed(tied)[len(tied):])), strand(sealed(tied) + "0"), strand(""), "0" + rec(2, "x"), " " + base(2, "x"),
		"x", "\x00", " ", ",", ":", "-1:,", "99:x,", strings.Repeat("0:,", 5000), strings.Repeat("9", 1<<20),
		strand(sealed(strings.Repeat(strand(""), api.MaxStrands+1))),
	}
}

func TestP4_1WhatIsNotRightEndsATape(t *testing.T) {
	front := base(5, "b") + recs("one")
	for _, s := range append(none(), base(1, "x"), base(2, "x"), base(5, "x"), base(6, "x")) {
		for _, behind := range []string{"", rec(2, "two"), rec(2, "two") + rec(3, "three"), rec(3, "three"), base(9, "later")} {
			r := laid(t, front+s+behind)
			counted(t, r, 1, func() { opened(t, r, 5, "b", "one") })
			kept(t, r, front, "")
		}
	}
}

func TestP4_1ATapeBeginsWithABase(t *testing.T) {
	for _, s := range append(none(), rec(2, "x")) {
		for _, behind := range []string{"", base(7, "b"), base(7, "b") + recs("one"), recs("one")} {
			for n := range api.Tapes {
				tapes := [api.Tapes]string{}
				tapes[n] = s + behind
				r := laid(t, tapes[:]...)
				opened(t, r, 1, "")
				kept(t, r, base(1, ""), "")
			}
		}
	}
}

func TestP4_1TextsOfTheMostBytes(t *testing.T) {
	long := strings.Repeat("\xff", most)
	r := laid(t, base(3, long)+recs("a", long, "b"))
	counted(t, r, 0, func() { opened(t, r, 3, long, "a", long, "b") })
	r = laid(t, base(3, "x")+recs("a", long+"y", "b"))
	opened(t, r, 3, "x", "a")
	has(t, r, base(3, "x")+recs("a"), "")
	r = laid(t, base(3, long+"y")+recs("a"))
	opened(t, r, 1, "")
	has(t, r, base(1, ""), "")
}

func TestP4_1ManyRecords(t *testing.T) {
	var list []string
	for i := range 10000 {
		list = append(list, strconv.Itoa(i))
	}
	r := laid(t, "", base(3, "x")+recs(list...))
	counted(t, r, 0, func() { opened(t, r, 3, "x", list...) })
}

// piece is a page of which is known what it is.
type piece struct {
	kind  string
	n     int64
	text  string
	whole bool
}

// bytes are a piece's page; if it is not to be whole, spoilt or cut off.
func (p piece) bytes(rnd *rand.Rand) string {
	s := page(p.kind, strconv.FormatInt(p.n, 10), p.text)
	if p.whole {
		return s
	}
	at := rnd.IntN(len(s))
	if rnd.IntN(2) == 0 {
		return s[:at]
	}
	b := []byte(s)
	b[at] ^= byte(1 + rnd.IntN(255))
	return string(b)
}

// pieces are some that mostly stand in their order.
func pieces(rnd *rand.Rand) []piece {
	l := []piece{{"base", int64(rnd.IntN(5)), strconv.Itoa(rnd.IntN(100)), true}}
	for i := range rnd.IntN(5) {
		l = append(l, piece{"rec", int64(i) + 1, strconv.Itoa(rnd.IntN(100)), true})
	}
	i := rnd.IntN(len(l))
	switch rnd.IntN(8) {
	case 0:
		l[i].whole = false
	case 1:
		l[i].n += int64(rnd.IntN(3)) - 1
	case 2:
		l[i].kind = []string{"base", "rec", "note"}[rnd.IntN(3)]
	case 3:
		l = l[i:]
	case 4:
		l = nil
	}
	return l
}

// reading is what pieces tell.
type reading struct {
	epoch   int64
	base    string
	records []string
	right   string
}

// read is what a tape of these pieces tells.
func read(l []piece) reading {
	var w reading
	for i, p := range l {
		fits := p.kind == "rec" && p.n == int64(i)
		if i == 0 {
			fits = p.kind == "base" && p.n >= 1
		}
		if !fits || !p.whole {
			break
		}
		if i == 0 {
			w.epoch, w.base = p.n, p.text
		} else {
			w.records = append(w.records, p.text)
		}
		w.right += page(p.kind, strconv.FormatInt(p.n, 10), p.text)
	}
	return w
}

func TestP4_1AndP4_2AsThePiecesTell(t *testing.T) {
	for seed := range uint64(20000) {
		rnd := rand.New(rand.NewPCG(seed, 4))
		var tapes [api.Tapes]string
		var told [api.Tapes]reading
		for n := range tapes {
			l := pieces(rnd)
			told[n] = read(l)
			for _, p := range l {
				tapes[n] += p.bytes(rnd)
			}
		}
		n := 0
		if told[1].epoch > told[0].epoch {
			n = 1
		}
		w := told[n]
		if w.epoch == 0 {
			w = reading{epoch: 1, right: base(1, "")}
		}
		r := laid(t, tapes[:]...)
		opened(t, r, w.epoch, w.base, w.records...)
		var want [api.Tapes]string
		want[n] = w.right
		kept(t, r, want[:]...)
		if t.Failed() {
			t.Fatalf("seed %d: %q", seed, tapes)
		}
	}
}

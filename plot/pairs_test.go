package plot_test

import (
	"strings"
	"testing"

	"furlong/api"
	"furlong/plot"
)

func TestP10_2Get(t *testing.T) {
	for _, x := range some().Pairs {
		stays(t, some(), ask(api.Order{Kind: api.OrGet, Key: x.Key}), api.Reply{Has: true, Value: x.Value})
	}
	for _, k := range []string{"c\x00", "d", "f\xff", "g\x00", "o", "o\xff\x00", "o\xff\xff", "c" + a(31)} {
		stays(t, some(), ask(api.Order{Kind: api.OrGet, Key: k}), api.Reply{})
	}
	// A value that is nothing is there all the same.
	p := with(some(), func(p *api.Plot) { p.Pairs[1].Value = ""; p.Pairs[2].Value = a(512) })
	stays(t, p, ask(api.Order{Kind: api.OrGet, Key: "g"}), api.Reply{Has: true})
	stays(t, p, ask(api.Order{Kind: api.OrGet, Key: "m"}), api.Reply{Has: true, Value: a(512)})
	stays(t, with(some(), func(p *api.Plot) { p.Pairs = nil }), ask(api.Order{Kind: api.OrGet, Key: "g"}), api.Reply{})
}

func TestP10_2Put(t *testing.T) {
	for _, k := range []string{"c", "c\x00", "d", "g", "g\x00", "m", "o", "o\xff", "o\xff\xff", "c" + a(31)} {
		for _, v := range []string{"", "1", "v" + k, a(64)} {
			changes(t, some(), ask(api.Order{Kind: api.OrPut, Key: k, Value: v}), put(some(), k, v), api.Reply{})
		}
	}
	empty := with(some(), func(p *api.Plot) { p.Pairs = nil })
	changes(t, empty, ask(api.Order{Kind: api.OrPut, Key: "d", Value: "1"}), put(empty, "d", "1"), api.Reply{})
	changes(t, directory(), ask(api.Order{Kind: api.OrPut, Key: "\x02m", Value: "1"}), put(directory(), "\x02m", "1"), api.Reply{})
}

func TestP10_2Del(t *testing.T) {
	for _, x := range some().Pairs {
		changes(t, some(), ask(api.Order{Kind: api.OrDel, Key: x.Key}), gone(some(), x.Key), api.Reply{Has: true})
	}
	for _, k := range []string{"c\x00", "d", "f\xff", "g\x00", "o", "o\xff\x00", "o\xff\xff", "c" + a(31)} {
		changes(t, some(), ask(api.Order{Kind: api.OrDel, Key: k}), some(), api.Reply{})
	}
	p := with(some(), func(p *api.Plot) { p.Pairs[1].Value = "" })
	changes(t, p, ask(api.Order{Kind: api.OrDel, Key: "g"}), gone(p, "g"), api.Reply{Has: true})
}

func TestP10_2SwapOfWhatIsThere(t *testing.T) {
	p := with(some(), func(p *api.Plot) { p.Pairs[2].Value = "" })
	for _, v := range []string{"", "1", "vg", a(64)} {
		changes(t, p, ask(api.Order{Kind: api.OrSwap, Key: "g", Value: v, Old: "vg", Has: true}), put(p, "g", v), api.Reply{Has: true})
		changes(t, p, ask(api.Order{Kind: api.OrSwap, Key: "m", Value: v, Has: true}), put(p, "m", v), api.Reply{Has: true})
		for _, old := range []string{"", "v", "vg\x00", "vG", "vgg", "1", a(64)} {
			changes(t, p, ask(api.Order{Kind: api.OrSwap, Key: "g", Value: v, Old: old, Has: true}), p, api.Reply{Value: "vg"})
		}
		changes(t, p, ask(api.Order{Kind: api.OrSwap, Key: "m", Value: v, Old: "x", Has: true}), p, api.Reply{})
		// It was not to be there.
		changes(t, p, ask(api.Order{Kind: api.OrSwap, Key: "g", Value: v}), p, api.Reply{Value: "vg"})
		changes(t, p, ask(api.Order{Kind: api.OrSwap, Key: "m", Value: v}), p, api.Reply{})
	}
	long := put(directory(), "\x02m", a(512))
	changes(t, long, ask(api.Order{Kind: api.OrSwap, Key: "\x02m", Value: "1", Old: a(64), Has: true}), long, api.Reply{Value: a(512)})
}

func TestP10_2SwapOfWhatIsNotThere(t *testing.T) {
	for _, k := range []string{"c\x00", "d", "f\xff", "o\xff\xff", "c" + a(31)} {
		for _, v := range []string{"", "1", a(64)} {
			changes(t, some(), ask(api.Order{Kind: api.OrSwap, Key: k, Value: v}), put(some(), k, v), api.Reply{Has: true})
			for _, old := range []string{"", "vg", "1"} {
				changes(t, some(), ask(api.Order{Kind: api.OrSwap, Key: k, Value: v, Old: old, Has: true}), some(), api.Reply{})
			}
		}
	}
}

// scans holds what a scan comes to against what it should.
func scans(t *testing.T, p api.Plot, from, to string, limit int, value string, keys ...string) {
	t.Helper()
	stays(t, p, ask(api.Order{Kind: api.OrScan, Key: from, To: to, Limit: limit}), api.Reply{Pairs: pairs(keys...), Value: value})
}

func TestP10_2ScanByItsLimit(t *testing.T) {
	for _, to := range []string{"", "p", "p\x00", "x", "\xff" + a(32)} {
		end := "p"
		if to == "p" {
			end = ""
		}
		scans(t, some(), "c", to, 1, "g", "c")
		scans(t, some(), "c", to, 2, "m", "c", "g")
		scans(t, some(), "c", to, 3, "o\xff", "c", "g", "m")
		scans(t, some(), "c", to, 4, end, "c", "g", "m", "o\xff")
		scans(t, some(), "c", to, 5, end, "c", "g", "m", "o\xff")
		scans(t, some(), "c", to, 100, end, "c", "g", "m", "o\xff")
		scans(t, some(), "c\x00", to, 1, "m", "g")
		scans(t, some(), "g", to, 1, "m", "g")
		scans(t, some(), "g\x00", to, 1, "o\xff", "m")
		scans(t, some(), "m", to, 2, end, "m", "o\xff")
		scans(t, some(), "o\xff", to, 1, end, "o\xff")
		scans(t, some(), "o\xff\x00", to, 1, end)
		scans(t, some(), "o\xff\xff", to, 100, end)
	}
}

func TestP10_2ScanByItsTo(t *testing.T) {
	scans(t, some(), "c", "c\x00", 1, "", "c")
	scans(t, some(), "c", "g", 1, "", "c")
	scans(t, some(), "c", "g\x00", 1, "g", "c")
	scans(t, some(), "c", "g\x00", 2, "", "c", "g")
	scans(t, some(), "c", "m", 2, "", "c", "g")
	scans(t, some(), "c", "n", 2, "m", "c", "g")
	scans(t, some(), "c", "n", 3, "", "c", "g", "m")
	scans(t, some(), "d", "e", 1, "")
	scans(t, some(), "d", "g", 1, "")
	scans(t, some(), "c", "o\xff", 100, "", "c", "g", "m")
	scans(t, some(), "c", "o\xff\xff", 100, "", "c", "g", "m", "o\xff")
	// At its end, nothing is left; a byte behind it, there may be.
	scans(t, some(), "o", "p", 1, "", "o\xff")
	scans(t, some(), "o", "p\x00", 1, "p", "o\xff")
	scans(t, some(), "o\xff\xff", "p", 1, "")
	scans(t, some(), "o\xff\xff", "p\x00", 1, "p")
	scans(t, some(), "o\xff\xff", "q", 1, "p")
	scans(t, some(), "o\xff\xff", "", 1, "p")
}

func TestP10_2ScanWhereThereIsNoEnd(t *testing.T) {
	p := with(some(), func(p *api.Plot) { p.Desc.Bound = api.Bound{} })
	for _, to := range []string{"", "p", "z", "\xff" + a(32)} {
		scans(t, p, "", to, 1, "g", "c")
		scans(t, p, "", to, 3, "o\xff", "c", "g", "m")
		scans(t, p, "", to, 4, "", "c", "g", "m", "o\xff")
		scans(t, p, "a", to, 100, "", "c", "g", "m", "o\xff")
		scans(t, p, "o\xff\x00", to, 1, "")
	}
	scans(t, p, "z", "", 1, "")
	scans(t, p, strings.Repeat("\xff", 33), "", 1, "")
	scans(t, p, "", "c", 1, "")
}

func TestP10_2ScanOfAHundred(t *testing.T) {
	p := with(some(), func(p *api.Plot) { p.Pairs = nil })
	for i := range 101 {
		p.Pairs = append(p.Pairs, api.Pair{Key: "d" + string([]byte{byte(i)}), Value: a(512)})
	}
	stays(t, p, ask(api.Order{Kind: api.OrScan, Key: "c", Limit: 100}), api.Reply{Pairs: p.Pairs[:100], Value: "d\x64"})
	stays(t, p, ask(api.Order{Kind: api.OrScan, Key: "d\x01", Limit: 100}), api.Reply{Pairs: p.Pairs[1:], Value: "p"})
}

// What a scan tells is not what the range has: whoever changes it changes nothing
// there.
func TestP10_2WhatIsToldIsNotKept(t *testing.T) {
	p := some()
	_, r, _ := plot.Apply(p, ask(api.Order{Kind: api.OrScan, Key: "c", Limit: 100}))
	for i := range r.Pairs[:cap(r.Pairs)] {
		r.Pairs[:cap(r.Pairs)][i] = api.Pair{Key: "scribble"}
	}
	if !equal(p, some()) {
		t.Error(show(p))
	}
}

func TestP10_2Alloc(t *testing.T) {
	alloc := ask(api.Order{Kind: api.OrAlloc})
	for _, n := range []int64{0, 1, 2, 9, 99, maxId - 2, maxId - 1} {
		p := with(first(), func(p *api.Plot) { p.Alloc = n })
		changes(t, p, alloc, with(p, func(p *api.Plot) { p.Alloc = n + 1 }), api.Reply{Value: num(n + 1)})
	}
	last := with(first(), func(p *api.Plot) { p.Alloc = maxId })
	changes(t, last, alloc, last, bad(api.ErrMany))
}

func TestP10_2AllocOfAnotherRange(t *testing.T) {
	for _, from := range []string{"\x00", "\x02", "a", "c"} {
		for _, n := range []int64{0, 1, 11, maxId} {
			p := with(some(), func(p *api.Plot) { p.Desc.Bound.From, p.Alloc = from, n })
			stays(t, p, ask(api.Order{Kind: api.OrAlloc}), moved(p))
		}
	}
	// Only where it begins tells, not its number.
	p := with(first(), func(p *api.Plot) { p.Desc.Id = 9 })
	changes(t, p, ask(api.Order{Kind: api.OrAlloc}), with(p, func(p *api.Plot) { p.Alloc = 12 }), api.Reply{Value: "12"})
	p = with(some(), func(p *api.Plot) { p.Desc.Id, p.Alloc = 1, 11 })
	stays(t, p, ask(api.Order{Kind: api.OrAlloc}), moved(p))
}

// meta is an order that a record be written.
func meta(level int, value string) api.Order {
	return ask(api.Order{Kind: api.OrMeta, Value: value, Limit: level})
}

func TestP10_2MetaOfAPlaceThatHasNothing(t *testing.T) {
	for _, gen := range []int64{1, 2, maxId} {
		for _, c := range []struct {
			level   int
			to, key string
		}{
			{1, "m", "\x01m"}, {2, "c", "\x02c"}, {2, "z", "\x02z"}, {1, "", "\x01" + strings.Repeat("\xff", 31)}, {2, a(31), "\x02" + a(31)}, {1, "\x00", "\x01\x00"}, {2, "\x03", "\x02\x03"},
		} {
			v := record("", c.to, gen)
			changes(t, directory(), meta(c.level, v), put(directory(), c.key, v), api.Reply{Has: true})
		}
	}
	empty := with(directory(), func(p *api.Plot) { p.Pairs = nil })
	v := record("c", "", 1)
	changes(t, empty, meta(2, v), put(empty, "\x02"+strings.Repeat("\xff", 31), v), api.Reply{Has: true})
}

func TestP10_2MetaOfAPlaceThatHasSomething(t *testing.T) {
	for _, level := range []int{1, 2} {
		key := string([]byte{byte(level)}) + "k"
		for _, old := range []string{"", "x", "1:1,", a(512), record("a", "k", 5) + " ", record("a", "k", 5)[1:]} {
			p := put(directory(), key, old)
			v := record("b", "k", 1)
			changes(t, p, meta(level, v), put(p, key, v), api.Reply{Has: true})
		}
		for _, c := range []struct {
			old, gen int64
			done     bool
		}{
			{1, 2, true}, {1, maxId, true}, {5, 6, true}, {maxId - 1, maxId, true},
			{1, 1, false}, {5, 5, false}, {maxId, maxId, false}, {2, 1, false}, {6, 5, false}, {maxId, 1, false}, {10, 9, false}, {maxId, maxId - 1, false},
		} {
			// Of one range or of another, only the generation tells.
			for _, from := range []string{"", "a", "b"} {
				p := put(directory(), key, record("a", "k", c.old))
				v := record(from, "k", c.gen)
				if c.done {
					changes(t, p, meta(level, v), put(p, key, v), api.Reply{Has: true})
				} else {
					changes(t, p, meta(level, v), p, api.Reply{})
				}
			}
		}
	}
}

// A place of the other level has no part.
func TestP10_2MetaOfJustItsLevel(t *testing.T) {
	p := put(directory(), "\x01k", record("", "k", 9))
	v := record("", "k", 3)
	changes(t, p, meta(2, v), put(p, "\x02k", v), api.Reply{Has: true})
	changes(t, p, meta(1, v), p, api.Reply{})
}

func TestP10_2MetaOfNoKey(t *testing.T) {
	for _, level := range []int{1, 2} {
		for _, to := range []string{a(32), a(33)} {
			// Some has no such key either, if there were one.
			for _, p := range []api.Plot{directory(), some()} {
				changes(t, p, meta(level, record("", to, 3)), p, bad(api.ErrLong))
			}
		}
		if _, r, _ := plot.Apply(directory(), meta(level, record("", a(31), 3))); !r.Has {
			t.Error(show(r))
		}
	}
}

func TestP10_2MetaOutOfItsBound(t *testing.T) {
	for _, to := range []string{"b", "g", "", a(31)} {
		for _, level := range []int{1, 2} {
			stays(t, some(), meta(level, record("", to, 3)), moved(some()))
		}
	}
	p := with(directory(), func(p *api.Plot) { p.Desc.Bound, p.Pairs = api.Bound{From: "\x02g", To: "\x02k"}, nil })
	for _, c := range []struct {
		to string
		in bool
	}{{"f\xff", false}, {"g", true}, {"g\x00", true}, {"j\xff", true}, {"k", false}, {"k\x00", false}, {"", false}} {
		v := record("", c.to, 3)
		if c.in {
			changes(t, p, meta(2, v), put(p, "\x02"+c.to, v), api.Reply{Has: true})
		} else {
			stays(t, p, meta(2, v), moved(p))
		}
		stays(t, p, meta(1, v), moved(p))
	}
}

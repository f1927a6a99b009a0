package roll_test

import (
	"fmt"
	"math"
	"slices"
	"strconv"
	"strings"
	"testing"

	"furlong/api"
)

const (
	maxTerm  = int64(1) << 40
	maxIndex = int64(1) << 40
)

// a is a text of n bytes.
func a(n int) string {
	return strings.Repeat("a", n)
}

// show tells what v is, in a line that is not too long.
func show(v any) string {
	s := fmt.Sprintf("%+v", v)
	return strconv.Quote(s[:min(len(s), 300)])
}

// entries are some of these Terms, each one with a Text that begins with mark,
// and of its own.
func entries(mark string, terms ...int64) []api.Entry {
	var l []api.Entry
	for i, n := range terms {
		l = append(l, api.Entry{Term: n, Text: mark + strconv.Itoa(i)})
	}
	return l
}

// of is a roll with entries of these Terms.
func of(base, baseTerm int64, terms ...int64) api.Roll {
	return api.Roll{Base: base, BaseTerm: baseTerm, Entries: entries("r", terms...)}
}

// some is a roll with the entries 6 to 9, of the Terms 2, 2, 3, 5.
func some() api.Roll {
	return of(5, 2, 2, 2, 3, 5)
}

// long is a roll of n entries, whose Terms rise now and then.
func long(base int64, n int) api.Roll {
	r := api.Roll{Base: base, BaseTerm: 1}
	for i := range n {
		r.Entries = append(r.Entries, api.Entry{Term: 1 + int64(i/7), Text: strconv.Itoa(i)})
	}
	return r
}

// named is a roll, and what there is about it.
type named struct {
	name string
	r    api.Roll
}

// right are rolls that may be, at the edges too.
func right() []named {
	l := []named{
		{"nothing", api.Roll{}}, {"an empty list", api.Roll{Entries: []api.Entry{}}}, {"four", some()},
		{"one", of(5, 2, 2)}, {"one of a later term", of(5, 2, 3)}, {"two", of(5, 2, 2, 9)}, {"from the beginning", of(0, 0, 1, 1, 2)},
		{"a base alone", of(7, 3)}, {"a base of a term alone", of(0, 3)}, {"an index without a term", of(3, 0)}, {"terms of 0", of(0, 0, 0, 0, 1)},
		{"the greatest base", of(maxIndex, maxTerm)}, {"one ahead of the greatest base", of(maxIndex-1, 4)}, {"one at the greatest index", of(maxIndex-1, 4, 4)},
		{"three at the greatest index", of(maxIndex-3, 4, 5, 6, 7)}, {"two, one ahead of the greatest index", of(maxIndex-3, 4, 5, 6)},
		{"the greatest term", of(5, 2, 2, maxTerm)}, {"the greatest term alone", of(5, maxTerm, maxTerm, maxTerm, maxTerm)},
		{"one below the greatest term", of(5, maxTerm-1, maxTerm-1, maxTerm)},
		{"bases beyond 32 bits", of(1<<32+5, 1<<32, 1<<32, 1<<33)},
		{"seventy", long(100, 70)},
	}
	for _, text := range []string{"", ",", ":", "0:,", "5:a", "\x00\xff", "\n\r\t", "\u00e9\u20ac", "\xe2\x82", a(9), a(10), a(99), a(100), a(70000)} {
		l = append(l, named{"a Text", api.Roll{Base: 5, BaseTerm: 2, Entries: []api.Entry{{Term: 2, Text: "x"}, {Term: 3, Text: text}, {Term: 3, Text: "y"}}}})
		l = append(l, named{"a Text, alone", api.Roll{Entries: []api.Entry{{Term: 1, Text: text}}}})
	}
	return l
}

// great are rolls that may be, and whose texts are more than a knot that Untie
// takes.
func great() []named {
	return []named{
		{"as many strands as a knot", long(3, 2047)}, {"one entry more than a knot's", long(3, 2048)}, {"many entries", long(0, 20000)},
		{"a Text that fills a knot", api.Roll{Entries: []api.Entry{{Term: 1, Text: a(1<<20 - 30)}}}},
		{"a Text as long as a knot", api.Roll{Entries: []api.Entry{{Term: 1, Text: a(1 << 20)}}}},
		{"a Text longer than a knot", api.Roll{Base: 1, BaseTerm: 1, Entries: []api.Entry{{Term: 1, Text: a(1<<20 + 1)}, {Term: 2, Text: "x"}}}},
		{"Texts that are longer together", api.Roll{Entries: []api.Entry{{Term: 1, Text: a(1 << 19)}, {Term: 1, Text: a(1 << 19)}, {Term: 2, Text: a(1 << 19)}}}},
	}
}

// wrongNumbers are numbers that are neither an index nor a term.
func wrongNumbers() []int64 {
	return []int64{-1, -2, -5, maxTerm + 1, maxTerm + 2, 1 << 41, 1<<62 + 5, math.MaxInt64 - 1, math.MaxInt64, math.MinInt64, math.MinInt64 + 5, -maxTerm}
}

// wrong are rolls that may not be.
func wrong() []named {
	var l []named
	for _, n := range wrongNumbers() {
		l = append(l,
			named{"a Base", of(n, 2, 2, 2, 3, 5)}, named{"a Base, alone", of(n, 0)},
			named{"a BaseTerm", of(5, n, 2, 2, 3, 5)}, named{"a BaseTerm, alone", of(0, n)}, named{"a BaseTerm, and the same Terms", of(5, n, n, n)},
			named{"both", of(n, n)}, named{"a Term, alone", of(0, 0, n)},
		)
		for i := range 4 {
			r := some()
			r.Entries[i].Term = n
			l = append(l, named{"a Term", r})
		}
	}
	for i := range 4 {
		r := some()
		r.Entries[i].Term = 1
		l = append(l, named{"a Term below BaseTerm", r})
	}
	return append(l,
		named{"one behind the greatest index", of(maxIndex, 4, 4)}, named{"two behind the greatest index", of(maxIndex-1, 4, 4, 4, 4)},
		named{"the last one behind the greatest index", of(maxIndex-3, 4, 5, 6, 7, 8)},
		named{"one below the one ahead", of(5, 2, 2, 3, 2)}, named{"one below the one ahead, in the middle", of(5, 2, 4, 3, 5)}, named{"falling", of(5, 2, 9, 8, 7)},
		named{"the last one below the greatest", of(5, 2, maxTerm, maxTerm-1)}, named{"the first one below the greatest", of(5, maxTerm, maxTerm-1)},
		named{"a Term of 0 behind one", of(5, 2, 2, 0)}, named{"a Term of 0 behind a base", of(0, 1, 0)},
	)
}

// wild are numbers of all kinds, those next to r's places among them.
func wild(r api.Roll) []int64 {
	l := []int64{0, 1, -1, maxIndex, maxIndex + 1, -maxIndex, 1 << 32, math.MaxInt64, math.MaxInt64 - 1, math.MinInt64, math.MinInt64 + 1}
	for i := range int64(9) {
		l = append(l, r.Base+i-3, r.Base+int64(len(r.Entries))+i-3, r.Base+1<<32+i, r.Base+math.MinInt64+i)
	}
	return l
}

// near are the indices in and around r's entries.
func near(r api.Roll) []int64 {
	var l []int64
	for i := r.Base - 3; i <= r.Base+int64(len(r.Entries))+3; i++ {
		l = append(l, i)
	}
	return l
}

// termAt is the Term at i, as the chapter tells it: gone through entry by entry.
func termAt(r api.Roll, i int64) (int64, bool) {
	at, term := r.Base, r.BaseTerm
	for _, e := range r.Entries {
		if at == i {
			return term, true
		}
		at, term = at+1, e.Term
	}
	if at == i {
		return term, true
	}
	return 0, false
}

// equal is whether two rolls are alike, field by field.
func equal(x, y api.Roll) bool {
	return x.Base == y.Base && x.BaseTerm == y.BaseTerm && slices.Equal(x.Entries, y.Entries)
}

// is holds a roll against what it should be.
func is(t *testing.T, what string, got, want api.Roll) {
	t.Helper()
	if !equal(got, want) {
		t.Errorf("%s: %s, not %s", what, show(got), show(want))
	}
}

// spare stands in the room behind a list's end.
var spare = api.Entry{Term: -77, Text: "spare"}

// room is l with room behind it, in which something stands.
func room(l []api.Entry) []api.Entry {
	all := append(slices.Clone(l), spare, spare, spare)
	return all[: len(l) : len(l)+3]
}

// roomy is r with room behind its entries.
func roomy(r api.Roll) api.Roll {
	r.Entries = room(r.Entries)
	return r
}

// untouched fails, unless l, which room made of was, is as it was, its spare room
// too.
func untouched(t *testing.T, what string, l, was []api.Entry) {
	t.Helper()
	if !slices.Equal(l, was) || !slices.Equal(l[len(l):cap(l)], []api.Entry{spare, spare, spare}) {
		t.Errorf("%s: what was handed in was changed: %s, not %s", what, show(l[:cap(l)]), show(was))
	}
}

// scribble writes over all of l, its spare room too.
func scribble(l []api.Entry) {
	all := l[:cap(l)]
	for i := range all {
		all[i] = api.Entry{Term: -9, Text: "scribble"}
	}
}

// more writes behind l's end, as somebody does who takes its room for his own.
func more(l []api.Entry) {
	for range 3 {
		l = append(l, api.Entry{Term: -8, Text: "more"})
	}
}

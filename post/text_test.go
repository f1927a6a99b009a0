package post_test

import (
	"math"
	"slices"
	"strconv"
	"strings"
	"testing"

	"furlong/api"
	"furlong/post"
)

// puts holds what Put says against what it should.
func puts(t *testing.T, what string, p api.Packet, want string, wantE api.Errno) {
	t.Helper()
	in := roomy(p)
	if s, e := post.Put(in); s != want || e != wantE {
		t.Errorf("%s: Put of %s: %.300q %d, not %.300q %d", what, show(p), s, e, want, wantE)
	}
	untouched(t, what, in, p)
}

// finds holds what Parse says of a text against what it should.
func finds(t *testing.T, what, s string, want api.Packet) {
	t.Helper()
	for range 2 {
		p, e := post.Parse(s)
		if e != api.OK || !equal(p, want) {
			t.Errorf("%s: Parse of %.300q: %s %d, not %s", what, s, show(p), e, show(want))
		}
		// What becomes of the answer is nothing to the next one.
		scribble(p)
	}
}

// refuses fails, if a text is taken for a packet's.
func refuses(t *testing.T, what, s string) {
	t.Helper()
	if p, e := post.Parse(s); e != api.ErrPost || !equal(p, api.Packet{}) {
		t.Errorf("%s: Parse of %.300q: %s %d", what, s, show(p), e)
	}
}

// refusesParts fails, if what is tied and sealed of these texts is taken for a
// packet's.
func refusesParts(t *testing.T, what string, l []string) {
	t.Helper()
	refuses(t, what, sealed(tie(l...)))
}

func TestP14_2PutOfEachKind(t *testing.T) {
	const (
		noWire  = "42:1:0,1:0,1:0,1:0,1:0,1:0,1:0,1:0,1:0,0:,0:,,"
		noOrder = "40:1:0,1:0,1:0,0:,0:,0:,0:,1:0,1:0,1:0,1:0,,"
		noReply = "15:1:0,1:0,1:0,0:,,"
	)
	for _, c := range []struct {
		p    api.Packet
		want string
	}{
		{
			slips(2, 4, 10),
			"1:1,1:2,1:3,1:5,64:1:5,2:11,2:12,1:9,1:6,1:4,1:5,1:8,1:0,19:1:4,2:e0,2:10,2:e1,,0:,,1:0,1:0," + noOrder + "1:0,1:0,1:0,1:0," + noReply,
		},
		{
			with(raft(api.RaAppendOk), func(p *api.Packet) { p.Wire.Reject, p.Wire.Hint = true, -1 }),
			"1:1,1:2,1:3,1:5,45:1:6,2:11,2:12,1:9,1:6,1:4,1:5,2:-1,1:1,0:,0:,,1:0,1:0," + noOrder + "1:0,1:0,1:0,1:0," + noReply,
		},
		{
			snap(),
			"1:1,1:2,1:3,1:5,48:1:7,2:11,2:12,1:9,1:6,1:4,1:5,1:8,1:0,0:,4:1:a,,,1:0,1:0," + noOrder + "1:0,1:0,1:0,1:0," + noReply,
		},
		{
			gone(),
			"1:2,1:2,1:3,1:5," + noWire + "2:11,2:14," + noOrder + "1:0,1:0,1:0,1:0," + noReply,
		},
		{
			ask(),
			"1:3,1:0,1:3,1:5," + noWire + "1:0,1:0,47:1:2,2:21,2:22,1:k,0:,4:1:v,,0:,1:0,1:0,1:0,1:0,,1:0,1:0,1:0,1:0," + noReply,
		},
		{
			done(),
			"1:4,1:2,1:0,1:5," + noWire + "1:0,1:0," + noOrder + "2:21,2:22,1:1,1:0,41:1:4,2:60,1:1,1:v,1:a,1:1,1:c,0:,1:b,2:22,,",
		},
		{
			not(),
			"1:4,1:2,1:0,1:5," + noWire + "1:0,1:0," + noOrder + "2:21,2:22,1:2,1:4," + noReply,
		},
		{
			tell(api.StNone),
			"1:4,1:2,1:0,1:5," + noWire + "1:0,1:0," + noOrder + "2:21,2:22,1:3,1:0," + noReply,
		},
	} {
		puts(t, "by hand", c.p, sealed(c.want), api.OK)
		finds(t, "by hand", sealed(c.want), c.p)
	}
}

// One whole text, its seal too.
func TestP14_2PutIsSealed(t *testing.T) {
	const s = "1:4,1:2,1:0,1:5,42:1:0,1:0,1:0,1:0,1:0,1:0,1:0,1:0,1:0,0:,0:,,1:0,1:0,40:1:0,1:0,1:0,0:,0:,0:,0:,1:0,1:0,1:0,1:0,,2:21,2:22,1:3,1:0,15:1:0,1:0,1:0,0:,,c75e1d7f"
	puts(t, "by hand", tell(api.StNone), s, api.OK)
	finds(t, "by hand", s, tell(api.StNone))
}

func TestP14_2PutIsTheKnotOfEach(t *testing.T) {
	for _, c := range append(right(), great()...) {
		puts(t, c.name, c.p, text(c.p), api.OK)
	}
}

func TestP14_2PutOfWhatMayNotBe(t *testing.T) {
	for _, c := range wrong() {
		puts(t, c.name, c.p, "", api.ErrPost)
	}
	for _, c := range plain() {
		for _, o := range others(c.p) {
			if may(o.p) {
				puts(t, o.name, o.p, text(o.p), api.OK)
			} else {
				puts(t, o.name, o.p, "", api.ErrPost)
			}
		}
	}
}

func TestP14_2ParseIsThePacketOfPut(t *testing.T) {
	for _, c := range append(right(), great()...) {
		finds(t, c.name, text(c.p), c.p)
	}
}

// Texts that are written as they should be, of packets that may not be.
func TestP14_2ParseRefusesWhatMayNotBe(t *testing.T) {
	for _, c := range wrong() {
		refuses(t, c.name, text(c.p))
	}
	for _, c := range plain() {
		for _, o := range others(c.p) {
			if may(o.p) {
				finds(t, o.name, text(o.p), o.p)
			} else {
				refuses(t, o.name, text(o.p))
			}
		}
	}
}

func TestP14_2ParseRefusesWhatIsNotSealed(t *testing.T) {
	for _, c := range plain() {
		s := text(c.p)
		body := tie(parts(c.p)...)
		for _, bad := range []string{
			body, body + "00000000", body + "00000001", body + strings.ToUpper(s[len(body):]) + "x", body + s[len(body)+1:], body + s[len(body):] + "0", body + "," + s[len(body):], " " + s, s + " ", s + "\n", s + "\x00",
			s[len(body):] + body, body + s[len(body)+4:] + s[len(body):len(body)+4], s + s, s[1:], s[:len(s)-1], body[1:] + s[len(body):], body[:len(body)-1] + s[len(body):], sealed(s), "0x" + s,
		} {
			refuses(t, c.name, bad)
		}
		for i := range s {
			refuses(t, c.name, s[:i])
			if i > 0 {
				refuses(t, c.name, s[i:])
			}
		}
	}
	for _, s := range []string{"", "0", "00000001", "00000000", ",", "1:1,", a(8), a(9), a(2000000), strings.Repeat("1:1,", 1<<19)} {
		refuses(t, "no seal", s)
	}
}

func TestP14_2ParseRefusesWhatIsNoKnot(t *testing.T) {
	for _, s := range []string{"", ",", ":", "a", "1", "1:", "1:1", "\x00", strings.Repeat("1", 100000), a(2000000), strings.Repeat("0:,", 13), strings.Repeat("1:1,", 13), strings.Repeat("1:", 100000)} {
		refuses(t, "no knot", sealed(s))
	}
	for _, c := range plain() {
		s := tie(parts(c.p)...)
		for _, bad := range []string{
			s + ",", s + "0", s + " ", s + "\x00", s + "0:,", s + "1:0,", " " + s, "0" + s, "+" + s, "-" + s, "\n" + s, s + s, s[1:], s[:len(s)-1], s[:len(s)-1] + ";", strings.Replace(s, ",", ";", 1), strings.Replace(s, "1:", ":", 1),
			strings.Replace(s, "1:", "01:", 1), strings.Replace(s, "1:", "2:", 1), strings.Replace(s, "1:", "-1:", 1), strings.Replace(s, "1:", "9223372036854775807:", 1), strings.Replace(s, "1:", "18446744073709551617:", 1),
			tie(s), tie(s, ""), strings.ReplaceAll(s, ",", ", "), strings.ReplaceAll(s, ",", ""), strings.ReplaceAll(s, ":", ""),
		} {
			refuses(t, c.name, sealed(bad))
		}
		for i := range s {
			refuses(t, c.name, sealed(s[:i]))
		}
	}
}

// nested are the texts of p with these texts in the place of its wire's.
func nested(p api.Packet, wire []string) []string {
	l := parts(p)
	l[4] = tie(wire...)
	return l
}

// nestedEntries are those with these texts in the place of its wire's entries'.
func nestedEntries(p api.Packet, entries []string) []string {
	l := wireParts(p.Wire)
	l[9] = tie(entries...)
	return nested(p, l)
}

// levels are the texts of p, of its wire and of its entries, which are tied, and
// how the packet's texts come of each, when it is another one.
func levels(p api.Packet) []level {
	return []level{
		{"packet", parts(p), func(l []string) []string { return l }},
		{"wire", wireParts(p.Wire), func(l []string) []string { return nested(p, l) }},
		{"entries", entryParts(p.Wire.Entries), func(l []string) []string { return nestedEntries(p, l) }},
	}
}

type level struct {
	name  string
	parts []string
	whole func(l []string) []string
}

func TestP14_2ParseRefusesTooFewOrTooManyWords(t *testing.T) {
	for _, c := range plain() {
		for _, v := range levels(c.p) {
			if v.name == "entries" {
				continue
			}
			refusesParts(t, v.name, v.whole(nil))
			for i := range v.parts {
				refusesParts(t, v.name+", one less", v.whole(slices.Delete(slices.Clone(v.parts), i, i+1)))
				refusesParts(t, v.name+", too few", v.whole(v.parts[:i]))
				if i > 0 {
					refusesParts(t, v.name+", too few", v.whole(v.parts[i:]))
				}
			}
			for i := range len(v.parts) + 1 {
				for _, more := range []string{"", "0", "1", "x"} {
					refusesParts(t, v.name+", one more", v.whole(slices.Insert(slices.Clone(v.parts), i, more)))
					refusesParts(t, v.name+", two more", v.whole(slices.Insert(slices.Clone(v.parts), i, more, more)))
				}
			}
			for _, n := range []int{1, 2, 4083, 4084, 5000} {
				refusesParts(t, v.name+", far more", v.whole(slices.Concat(v.parts, slices.Repeat([]string{"0"}, n))))
			}
		}
	}
}

func TestP14_2ParseRefusesHalfAnEntry(t *testing.T) {
	p := some()
	l := entryParts(p.Wire.Entries)
	for n := range len(l) + 1 {
		if n%2 == 0 {
			want := with(p, func(p *api.Packet) { p.Wire.Entries = p.Wire.Entries[:n/2] })
			finds(t, "some of them", sealed(tie(nestedEntries(p, l[:n])...)), want)
			continue
		}
		refusesParts(t, "half an entry", nestedEntries(p, l[:n]))
	}
	for i := range l {
		refusesParts(t, "one less", nestedEntries(p, slices.Delete(slices.Clone(l), i, i+1)))
		refusesParts(t, "one twice", nestedEntries(p, slices.Insert(slices.Clone(l), i, l[i])))
	}
	refusesParts(t, "half an entry", nestedEntries(raft(api.RaVote), []string{"4"}))
	refusesParts(t, "half an entry", nestedEntries(gone(), []string{""}))
}

func TestP14_2ParseRefusesTooManyEntries(t *testing.T) {
	for _, n := range []int{64, 65, 66, 2047, 2048, 2049, 5000} {
		l := entryParts(slips(n, 4).Wire.Entries)
		if n <= maxSlips {
			finds(t, "entries", sealed(tie(nestedEntries(some(), l)...)), slips(n, 4))
			continue
		}
		refusesParts(t, "entries", nestedEntries(some(), l))
	}
}

// spellings are texts that are nearly a number's, or no number's.
func spellings(n string) []string {
	l := []string{
		"", "a", "-", "+", "+" + n, "0" + n, "00" + n, " " + n, n + " ", n + "\n", n + "\x00", n + ",", n + ".0", n + "a", "0x" + n, "0b" + n, "1_" + n, "-0", "+0", "00", "1e1", "0:,",
		"99999999999999999999", "18446744073709551616", "18446744073709551617", "9223372036854775808", "-9223372036854775809", "\u0661", "\xff", strings.Repeat("9", 10000),
	}
	if n != "0" {
		l = append(l, "-"+n)
	}
	return slices.DeleteFunc(l, func(s string) bool { return s == n })
}

// numberPlaces are where in the texts of a packet, of its wire and of an entry
// there are numbers.
func numberPlaces(name string) []int {
	switch name {
	case "packet":
		return []int{0, 1, 2, 3, 5, 6, 8, 9, 10, 11}
	case "wire":
		return []int{0, 1, 2, 3, 4, 5, 6, 7}
	}
	return []int{0, 2, 4}
}

func TestP14_2ParseRefusesANumberThatIsNone(t *testing.T) {
	// Where 0 may be, nothing but the text tells that it is none.
	zeros := slips(3, 0)
	zeros.Wire.Index, zeros.Wire.LogTerm, zeros.Wire.Commit, zeros.Wire.Hint = 0, 0, 0, 0
	finds(t, "zeros", text(zeros), zeros)
	for _, c := range append(plain(), named{"zeros", zeros}) {
		for _, v := range levels(c.p) {
			for _, i := range numberPlaces(v.name) {
				if i >= len(v.parts) {
					continue
				}
				n, err := strconv.ParseInt(v.parts[i], 10, 64)
				if err != nil {
					t.Fatal(err)
				}
				bad := spellings(v.parts[i])
				for _, by := range []int64{math.MinInt64, -1 << 32, -1 << 16, -1 << 8, 1 << 62, 1 << 44} {
					bad = append(bad, strconv.FormatInt(n+by, 10))
				}
				for _, near := range bad {
					if near == "-1" && v.name == "wire" && i == 7 {
						continue
					}
					l := slices.Clone(v.parts)
					l[i] = near
					refusesParts(t, v.name+" "+strconv.Itoa(i), v.whole(l))
				}
			}
		}
	}
}

func TestP14_2ParseRefusesARejectThatIsNone(t *testing.T) {
	for kind := api.RaPre; kind <= api.RaSnap; kind++ {
		p := raft(kind)
		l := wireParts(p.Wire)
		for _, s := range []string{"", "2", "-1", "10", "01", "00", "+1", " 1", "1 ", "true", "false", "x", "\x00", "0:,", "1:1,", "\xff"} {
			l[8] = s
			refusesParts(t, "Reject", nested(p, l))
		}
		for i, s := range []string{"0", "1"} {
			l[8] = s
			p.Wire.Reject = i == 1
			finds(t, "Reject", sealed(tie(nested(p, l)...)), p)
		}
	}
}

func TestP14_2ParseRefusesAnOrderOrAReplyThatIsNone(t *testing.T) {
	for _, c := range plain() {
		for _, i := range []int{7, 12} {
			was := parts(c.p)[i]
			for _, s := range []string{
				"", "0", "1:0,", was + ",", was + "0", was + "0:,", was + "1:k,", was + was + "0:,", was[1:], was[:len(was)-1], "0" + was, " " + was, was + " ", tie(was), sealed(was),
				strings.Replace(was, "1:0,", "2:00,", 1), strings.Replace(was, "1:0,", "2:-0,", 1), strings.Replace(was, "1:0,", "0:,", 1), strings.Replace(was, "1:0,", "1:x,", 1), a(1 << 21), parts(c.p)[19-i],
			} {
				if s == was {
					continue
				}
				l := parts(c.p)
				l[i] = s
				refusesParts(t, c.name, l)
			}
		}
	}
}

// What stands in a text's parts, changed somehow: what is found may be, and has
// just that text.
func TestP14_2ParseOfTextsThatAreNearlyRight(t *testing.T) {
	found := 0
	for _, c := range plain()[:8] {
		s := tie(parts(c.p)...)
		for i := range s {
			for _, b := range []byte("\x00,-:0123456789ax\xff") {
				for _, near := range []string{s[:i] + string([]byte{b}) + s[i+1:], s[:i] + string([]byte{b}) + s[i:], s[:i] + s[i+1:]} {
					near = sealed(near)
					p, e := post.Parse(near)
					if e == api.OK && (!may(p) || text(p) != near) || e != api.OK && (e != api.ErrPost || !equal(p, api.Packet{})) {
						t.Fatalf("Parse(%q): %s %d", near, show(p), e)
					}
					if e == api.OK {
						found++
					}
				}
			}
		}
	}
	if found < 500 {
		t.Errorf("just %d were packets", found)
	}
}

func TestP14_2ParseSharesNothing(t *testing.T) {
	for _, p := range []api.Packet{some(), done()} {
		s := text(p)
		one, _ := post.Parse(s)
		other, _ := post.Parse(s)
		scribble(one)
		if !equal(other, p) {
			t.Errorf("the other answer is %s now", show(other))
		}
		finds(t, "again", s, p)
	}
}

package bound_test

import (
	"math"
	"strings"
	"testing"

	"furlong/api"
	"furlong/bound"
)

// last is 31 bytes 255.
const last = "\xff\xff\xff\xff\xff\xff\xff\xff\xff\xff\xff\xff\xff\xff\xff\xff\xff\xff\xff\xff\xff\xff\xff\xff\xff\xff\xff\xff\xff\xff\xff"

// noLevels are numbers that no level of the directory is, those among them of
// which the last byte is a level's.
func noLevels() []int {
	return []int{0, 3, 4, 255, 256, 257, 258, 1 << 16, 1<<16 + 1, 1<<32 + 1, 1<<32 + 2, -1, -2, -254, -255, -256, math.MaxInt, math.MinInt, math.MinInt + 1, math.MinInt + 2}
}

func TestP2_5LevelIsToldByTheFirstByte(t *testing.T) {
	for c := range 256 {
		want := 0
		switch c {
		case 0:
			want = 3
		case 1, 2:
			want = c
		}
		for _, behind := range []string{"", "\x00", "\x01", "\x02", "a", "\xff", a(31), a(32), a(100)} {
			k := string([]byte{byte(c)}) + behind
			if got := bound.Level(k); got != want {
				t.Errorf("Level(%q): %d, not %d", k, got, want)
			}
		}
	}
	if got := bound.Level(""); got != 3 {
		t.Errorf("Level of the empty text: %d", got)
	}
}

func TestP2_5MetaIsTheLevelAndTheEnd(t *testing.T) {
	for _, c := range []struct {
		level    int
		to, want string
	}{
		{2, "m", "\x02m"}, {1, "x", "\x01x"}, {1, "\x02m", "\x01\x02m"}, {2, "\x00", "\x02\x00"}, {2, "\xff", "\x02\xff"},
		{1, "", "\x01" + last}, {2, "", "\x02" + last}, {2, last, "\x02" + last},
		{2, a(31), "\x02" + a(31)}, {2, a(32), "\x02" + a(32)}, {1, a(33), "\x01" + a(33)}, {1, a(1000), "\x01" + a(1000)},
	} {
		if got := bound.Meta(c.level, c.to); got != c.want {
			t.Errorf("Meta(%d, %q): %q", c.level, c.to, got)
		}
	}
	for _, level := range noLevels() {
		for _, to := range []string{"", "m", "\x01", "\x02", a(33)} {
			if got := bound.Meta(level, to); got != "" {
				t.Errorf("Meta(%d, %q): %q", level, to, got)
			}
		}
	}
}

func TestP2_5MetaIsAKeyOfItsLevel(t *testing.T) {
	for level := 1; level <= 2; level++ {
		for _, to := range []string{"", "m", "\x00", "\x01", "\x03", "\xff", a(31), last} {
			k := bound.Meta(level, to)
			if bound.Key(k) != api.OK || bound.Level(k) != level || k > bound.Meta(level, "") {
				t.Errorf("Meta(%d, %q): %q", level, to, k)
			}
		}
	}
	if len(bound.Meta(1, "")) != 32 || len(last) != 31 {
		t.Error(len(bound.Meta(1, "")), len(last))
	}
}

func TestP2_5SearchIsTheLevelBehindTheKey(t *testing.T) {
	for _, c := range []struct {
		level    int
		k        string
		from, to string
	}{
		{2, "m", "\x02m\x00", "\x03"}, {1, "m", "\x01m\x00", "\x02"}, {1, "\x02m", "\x01\x02m\x00", "\x02"}, {2, "\x00", "\x02\x00\x00", "\x03"},
		{1, "", "\x01" + last + "\x00", "\x02"}, {2, "", "\x02" + last + "\x00", "\x03"}, {2, last, "\x02" + last + "\x00", "\x03"},
		{2, a(32), "\x02" + a(32) + "\x00", "\x03"}, {1, a(1000), "\x01" + a(1000) + "\x00", "\x02"},
	} {
		if got := bound.Search(c.level, c.k); got != of(c.from, c.to) {
			t.Errorf("Search(%d, %q): %q", c.level, c.k, got)
		}
	}
	for _, level := range noLevels() {
		for _, k := range []string{"", "m", "\x01", "\x02", a(33)} {
			if got := bound.Search(level, k); got != (api.Bound{}) {
				t.Errorf("Search(%d, %q): %q", level, k, got)
			}
		}
	}
}

// What is told under its end is found behind the key: of all that end above it,
// and of nothing else.
func TestP2_5SearchHasWhatEndsAboveTheKey(t *testing.T) {
	ends := append(texts(2), strings.Repeat("\xff", 30), "")
	for level := 1; level <= 2; level++ {
		for _, k := range texts(2)[1:] {
			b := bound.Search(level, k)
			if bound.Check(b) != api.OK {
				t.Errorf("Search(%d, %q): %q", level, k, b)
			}
			for _, to := range ends {
				if got, want := bound.Has(b, bound.Meta(level, to)), to == "" || to > k; got != want {
					t.Errorf("Search(%d, %q) has what ends at %q: %v", level, k, to, got)
				}
				if bound.Has(b, bound.Meta(3-level, to)) {
					t.Errorf("Search(%d, %q) has what ends at %q in the other level", level, k, to)
				}
			}
		}
	}
}

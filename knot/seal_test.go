package knot_test

import (
	"math/rand/v2"
	"strings"
	"testing"

	"furlong/api"
	"furlong/knot"
)

// plainSum is the sum as the chapter tells it, byte by byte.
func plainSum(s string) uint32 {
	a, b := uint64(1), uint64(0)
	for i := 0; i < len(s); i++ {
		a = (a + uint64(s[i])) % 65521
		b = (b + a) % 65521
	}
	return uint32(b*65536 + a)
}

// bytesOf is n bytes of no rule.
func bytesOf(r *rand.Rand, n int) string {
	b := make([]byte, n)
	for i := range b {
		b[i] = byte(r.Uint32())
	}
	return string(b)
}

func TestP1_4Sum(t *testing.T) {
	for s, want := range map[string]uint32{
		"": 1, "\x00": 0x00010001, "a": 0x00620062, "abc": 0x024d0127, "Wikipedia": 0x11e60398, "\xff\xff": 0x02ff01ff,
	} {
		if got := knot.Sum(s); got != want {
			t.Errorf("Sum(%q): %x, not %x", s, got, want)
		}
	}
}

// The greatest bytes are those at which a number would first outgrow its bits,
// and the lengths those at which a sum that is reckoned piece by piece turns.
func TestP1_4SumOfLongTexts(t *testing.T) {
	r := rand.New(rand.NewPCG(1, 4))
	for _, n := range []int{255, 256, 257, 258, 4095, 4096, 4097, 5551, 5552, 5553, 8192, 65520, 65521, 65522, 1 << 20, 1<<20 + 1} {
		for _, s := range []string{strings.Repeat("\xff", n), strings.Repeat("\x00", n), bytesOf(r, n)} {
			if got, want := knot.Sum(s), plainSum(s); got != want {
				t.Errorf("Sum of %d bytes %x: %x, not %x", n, s[0], got, want)
			}
		}
	}
}

func TestP1_4SealIsTheTextAndItsSum(t *testing.T) {
	for s, want := range map[string]string{
		"": "00000001", "a": "a00620062", "abc": "abc024d0127", "\x00\xff": "\x00\xff01010100", "Wikipedia": "Wikipedia11e60398",
		"00000001": "0000000106c90182",
	} {
		if got := knot.Seal(s); got != want {
			t.Errorf("Seal(%q): %q, not %q", s, got, want)
		}
	}
}

func TestP1_4OpenIsTheTextWhoseSealItIs(t *testing.T) {
	for s, want := range map[string]string{
		"00000001": "", "a00620062": "a", "abc024d0127": "abc", "\x00\xff01010100": "\x00\xff",
	} {
		if got, e := knot.Open(s); got != want || e != api.OK {
			t.Errorf("Open(%q): %q %d", s, got, e)
		}
	}
}

func TestP1_4OpenRefusesWhatIsNotSealed(t *testing.T) {
	for _, s := range []string{
		"", "1", "0000001", "00000000", "00000002", "000000001", "00000001 ", " 00000001", "0000000g", "-0000001",
		"a", "a0062006", "a00620063", "a10620062", "b00620062", "aa00620062", "a00620062a", "00620062", "00620062a",
		"abc024D0127", "abc024d127", "abc0x24d0127", "abc 24d0127", "abc01270 24d",
	} {
		if got, e := knot.Open(s); got != "" || e != api.ErrSum {
			t.Errorf("Open(%q): %q %d", s, got, e)
		}
	}
}

func TestP1_5OpenOfSealIsTheText(t *testing.T) {
	r := rand.New(rand.NewPCG(3, 5))
	for _, n := range []int{0, 1, 2, 7, 8, 9, 63, 64, 4096, 4097, 70000, 1<<20 + 1} {
		s := bytesOf(r, n)
		if got, e := knot.Open(knot.Seal(s)); got != s || e != api.OK {
			t.Errorf("of %d bytes: %d bytes, %d", n, len(got), e)
		}
		if got, e := knot.Open(knot.Seal(knot.Seal(s))); got != knot.Seal(s) || e != api.OK {
			t.Errorf("of %d bytes, sealed twice: %d bytes, %d", n, len(got), e)
		}
	}
}

func TestP1_5OneOtherByteIsSeen(t *testing.T) {
	for _, s := range []string{"", "a", "\x00", "\xff\xff", "2:ab,0:,", strings.Repeat("z", 300)} {
		b := []byte(knot.Seal(s))
		for i, was := range b {
			for turn := 1; turn < 256; turn++ {
				b[i] = was ^ byte(turn)
				if got, e := knot.Open(string(b)); got != "" || e != api.ErrSum {
					t.Fatalf("Open(%q), byte %d another one: %q %d", b, i, got, e)
				}
			}
			b[i] = was
		}
	}
}

func TestP1_5OneOtherByteOfALongTextIsSeen(t *testing.T) {
	r := rand.New(rand.NewPCG(4, 5))
	b := []byte(knot.Seal(bytesOf(r, 70000)))
	for range 200 {
		i := r.IntN(len(b))
		was := b[i]
		b[i] ^= byte(1 + r.IntN(255))
		if got, e := knot.Open(string(b)); got != "" || e != api.ErrSum {
			t.Fatalf("byte %d another one: %d bytes, %d", i, len(got), e)
		}
		b[i] = was
	}
}

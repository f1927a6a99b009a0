package knot

import "furlong/api"

const (
	sumModulus = 65521
	sumDigits  = 8
	// stretch is so few bytes that neither number of a sum outgrows 32 bits
	// within it, from below sumModulus on.
	stretch = 4096
)

// Sum is a number by which spoilt texts are told.
func Sum(s string) uint32 {
	a, b := uint32(1), uint32(0)
	for s != "" {
		part := s[:min(len(s), stretch)]
		for i := range len(part) {
			a += uint32(part[i])
			b += a
		}
		// Once a stretch, not once a byte: the numbers come out the same.
		a %= sumModulus
		b %= sumModulus
		s = s[len(part):]
	}
	return b<<16 | a
}

// Seal is s, and its Sum behind it.
func Seal(s string) string {
	return s + hex(Sum(s))
}

// Open is the text whose Seal s is.
func Open(s string) (string, api.Errno) {
	end := len(s) - sumDigits
	if end < 0 || s[end:] != hex(Sum(s[:end])) {
		return "", api.ErrSum
	}
	return s[:end], api.OK
}

// hex is the hexadecimal digits of n, the highest first, needless 0s too.
func hex(n uint32) string {
	var digits [sumDigits]byte
	for i := range digits {
		digits[sumDigits-1-i] = "0123456789abcdef"[n&15]
		n >>= 4
	}
	return string(digits[:])
}

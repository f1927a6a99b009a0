package knot

import (
	"strconv"

	"furlong/api"
)

// mostDigits is the bytes of the longest number, -2^63.
const mostDigits = 20

// Num is the decimal digits of n.
func Num(n int64) string {
	var digits [mostDigits]byte
	at := mostDigits
	left := uint64(n)
	if n < 0 {
		// Wraps round, so that -2^63, whose opposite is no int64, comes out right.
		left = -left
	}
	for {
		at--
		digits[at] = '0' + byte(left%10)
		left /= 10
		if left == 0 {
			break
		}
	}
	if n < 0 {
		at--
		digits[at] = '-'
	}
	return string(digits[at:])
}

// Int is the number whose Num s is.
func Int(s string) (int64, api.Errno) {
	if len(s) > mostDigits {
		return 0, api.ErrKnot
	}
	n, err := strconv.ParseInt(s, 10, 64)
	// The library takes needless 0s, +1 and -0 too: no number's Num is such.
	if err != nil || Num(n) != s {
		return 0, api.ErrKnot
	}
	return n, api.OK
}

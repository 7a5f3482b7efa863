package item

import (
	"math"
	"strconv"
)

// Number is the number whose text s is, if it is one's.
func Number(s string) (uint64, bool) {
	n := uint64(0)
	for place, r := range s {
		digit := uint64(r - '0')
		switch {
		case r < '0' || r > '9':
			return 0, false
		case place > 0 && n == 0: // what stands ahead of it is a nought
			return 0, false
		case n > (math.MaxUint64-digit)/10: // asked ahead, as the number would come round
			return 0, false
		}
		n = 10*n + digit
	}
	return n, s != ""
}

// Text is a number's text.
func Text(n uint64) string {
	return strconv.FormatUint(n, 10)
}

// Count adds to the number whose text s is, and comes round behind the greatest; or takes away from it, and stays at 0.
func Count(s string, by uint64, down bool) (string, uint64, bool) {
	n, is := Number(s)
	switch {
	case !is:
		return "", 0, false
	case !down:
		n += by
	case by > n:
		n = 0
	default:
		n -= by
	}
	return Text(n), n, true
}

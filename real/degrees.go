package real

import (
	"strconv"
	"strings"

	"paddock/api"
)

// A degree's millionths are its first six digits behind the point.
const (
	million  = 1000000
	microLen = 6
)

// Micro reads degrees as millionths (P2.7).
func Micro(text string) (int32, api.Errno) {
	if len(text) > api.MaxDigits {
		return 0, api.ErrLong
	}
	d, rest, ok := cutDecimal(text)
	if !ok || rest != "" || len(d.part) > microLen {
		return 0, api.ErrDigits
	}
	n, ok := microOf(d.whole + d.part + strings.Repeat("0", microLen-len(d.part)))
	if !ok {
		return 0, api.ErrRange
	}
	if d.below {
		return -n, api.OK
	}
	return n, api.OK
}

// microOf is the number of digits; false: it is above MaxMicro.
func microOf(digits string) (int32, bool) {
	n := int64(0)
	for i := range len(digits) {
		n = n*10 + int64(digits[i]-'0')
		// No further digit makes it less; and so it never grows out of 64 bits.
		if n > api.MaxMicro {
			return 0, false
		}
	}
	return int32(n), true
}

// Degrees writes millionths as degrees (P2.7).
func Degrees(m int32) string {
	n, sign := int64(m), ""
	if n < 0 {
		n, sign = -n, "-"
	}
	whole := sign + strconv.FormatInt(n/million, 10)
	if n%million == 0 {
		return whole
	}
	// The million ahead keeps the noughts behind the point in their places.
	part := strconv.FormatInt(million+n%million, 10)[1:]
	return whole + "." + strings.TrimRight(part, "0")
}

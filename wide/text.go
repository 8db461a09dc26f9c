package wide

import (
	"math/bits"
	"strconv"
	"strings"

	"paddock/api"
)

// A text is worked on in two pieces, of which the last has tailDigits digits: with 19 both are numbers of 64 bits.
const (
	tailDigits = 19
	tailPower  = 10000000000000000000
	mostDigits = 39 // of an Int
)

// Text is the number in digits (P1.7).
func (a Int) Text() string {
	sign := ""
	if a.Hi < 0 {
		sign = "-"
	}
	head, tail := a.size().quo(tailPower)
	digits := strconv.FormatUint(tail, 10)
	if head == (size{}) {
		return sign + digits
	}
	noughts := strings.Repeat("0", tailDigits-len(digits))
	return sign + strconv.FormatUint(head.lo, 10) + noughts + digits
}

// Parse is the number whose text it is (P1.7).
func Parse(s string) (Int, api.Errno) {
	digits, below := strings.CutPrefix(s, "-")
	if !isNumeral(digits) || below && digits == "0" {
		return Int{}, api.ErrNumeral
	}
	n, ok := sizeOf(digits)
	if !ok || !n.fits(below) {
		return Int{}, api.ErrWide
	}
	return n.signed(below), api.OK
}

// isNumeral tells whether digits are those of a number, without noughts ahead.
func isNumeral(digits string) bool {
	if digits == "" || digits[0] == '0' && len(digits) > 1 {
		return false
	}
	for i := range len(digits) {
		if digits[i] < '0' || digits[i] > '9' {
			return false
		}
	}
	return true
}

// sizeOf is the number of digits that are a numeral's, and false if they are too many for 128 bits.
func sizeOf(digits string) (size, bool) {
	if len(digits) > mostDigits {
		return size{}, false
	}
	cut := max(0, len(digits)-tailDigits)
	head, ok := number64("0" + digits[:cut])
	if !ok {
		return size{}, false
	}
	tail, ok := number64(digits[cut:])
	hi, lo := bits.Mul64(head, tailPower)
	return size{hi, lo}.plus(tail), ok
}

func number64(digits string) (uint64, bool) {
	v, err := strconv.ParseUint(digits, 10, 64)
	return v, err == nil
}

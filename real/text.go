package real

import (
	"math"
	"strconv"
	"strings"

	"paddock/api"
)

// The texts of what no digits tell.
const (
	textNaN   = "nan"
	textInf   = "inf"
	textBelow = "-inf"
)

// Parse reads a number (P2.6).
func Parse(text string) (float64, api.Errno) {
	if len(text) > api.MaxDigits {
		return 0, api.ErrLong
	}
	switch text {
	case textNaN:
		return math.NaN(), api.OK
	case textInf:
		return math.Inf(1), api.OK
	case textBelow:
		return math.Inf(-1), api.OK
	}
	if !isNumber(text) {
		return 0, api.ErrDigits
	}
	x, err := strconv.ParseFloat(text, 64)
	if err != nil {
		return 0, api.ErrRange // the only fault that a number's text has left
	}
	return x, api.OK
}

// Print writes it (P2.6).
func Print(x float64) string {
	switch {
	case math.IsNaN(x):
		return textNaN
	case math.IsInf(x, 1):
		return textInf
	case math.IsInf(x, -1):
		return textBelow
	}
	return strconv.FormatFloat(x, 'g', -1, 64)
}

// isNumber tells whether it is a number's text. strconv takes more than that: a plus ahead, hexadecimal digits, an E.
func isNumber(text string) bool {
	_, rest, ok := cutDecimal(text)
	return ok && (rest == "" || isPower(rest))
}

// isPower tells whether it is an e and a power of ten.
func isPower(text string) bool {
	power, ok := strings.CutPrefix(text, "e")
	if !ok {
		return false
	}
	if power != "" && (power[0] == '+' || power[0] == '-') {
		power = power[1:]
	}
	digits, rest := cutDigits(power)
	return digits != "" && rest == ""
}

// decimal is a number in digits: those ahead of the point, and those behind it.
type decimal struct {
	below       bool
	whole, part string
}

// cutDecimal takes a decimal off a text's head; false: the text does not begin with one, or it has a point without digits behind it.
func cutDecimal(text string) (decimal, string, bool) {
	var d decimal
	text, d.below = strings.CutPrefix(text, "-")
	d.whole, text = cutDigits(text)
	if d.whole == "" {
		return decimal{}, "", false
	}
	behind, point := strings.CutPrefix(text, ".")
	if !point {
		return d, text, true
	}
	d.part, text = cutDigits(behind)
	if d.part == "" {
		return decimal{}, "", false
	}
	return d, text, true
}

// cutDigits takes the digits off a text's head.
func cutDigits(text string) (digits, rest string) {
	rest = strings.TrimLeft(text, "0123456789")
	return text[:len(text)-len(rest)], rest
}

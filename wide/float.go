package wide

import (
	"math"

	"paddock/api"
)

// mantissa is how many bits of a float64 count.
const mantissa = 53

// Float is the real number that is nearest (P1.6).
func (a Int) Float() float64 {
	f := a.size().float()
	if a.Hi < 0 {
		return -f
	}
	return f
}

// float is s as a real number, rounded once: where 64 bits are too few, the bits that fall off are kept as one lowest bit, which lies so far below the mantissa that it only breaks a tie.
func (s size) float() float64 {
	drop := s.bitLen() - 64
	if drop <= 0 {
		return float64(s.lo)
	}
	top := s.hi<<(64-drop) | s.lo>>drop
	if s.lo<<(64-drop) != 0 {
		top |= 1
	}
	return math.Ldexp(float64(top), drop)
}

// FromFloat is a real number without its fraction (P1.6).
func FromFloat(f float64) (Int, api.Errno) {
	const edge = 0x1p127
	if math.IsNaN(f) {
		return Int{}, api.ErrArg
	}
	if f >= edge || f < -edge {
		return Int{}, api.ErrWide
	}
	part, exp := math.Frexp(math.Abs(f))
	digits := uint64(math.Ldexp(part, mantissa))
	return shifted(digits, exp-mantissa).signed(f < 0), api.OK
}

// shifted is v times 2^by, without its fraction.
func shifted(v uint64, by int) size {
	if by < 0 {
		return size{lo: v >> -by}
	}
	if by >= 64 {
		return size{hi: v << (by - 64)}
	}
	return size{v >> (64 - by), v << by}
}

package wide

import "math/bits"

// size is how far a number is from 0. An Int can't say this of -2^127, so it has a type of its own.
type size struct {
	hi, lo uint64
}

// size64 is the size of a number of 64 bits; that of -2^63 comes out right because uint64 wraps round.
func size64(v int64) uint64 {
	if v < 0 {
		return -uint64(v)
	}
	return uint64(v)
}

func (a Int) size() size {
	if a.Hi < 0 {
		a = a.Neg()
	}
	return size{uint64(a.Hi), a.Lo}
}

// signed is the number of that size, modulo 2^128.
func (s size) signed(below bool) Int {
	a := Int{Hi: int64(s.hi), Lo: s.lo}
	if below {
		return a.Neg()
	}
	return a
}

// fits tells whether an Int holds the number of that size and sign.
func (s size) fits(below bool) bool {
	const top = 1 << 63
	return s.hi < top || below && s == size{hi: top}
}

func (s size) bitLen() int {
	if s.hi != 0 {
		return 64 + bits.Len64(s.hi)
	}
	return bits.Len64(s.lo)
}

// quo divides by d, which is not 0.
func (s size) quo(d uint64) (size, uint64) {
	lo, rest := bits.Div64(s.hi%d, s.lo, d)
	return size{s.hi / d, lo}, rest
}

// plus adds v, modulo 2^128.
func (s size) plus(v uint64) size {
	lo, carry := bits.Add64(s.lo, v, 0)
	return size{s.hi + carry, lo}
}

// holdsSquare tells whether n times n is at most s.
func (s size) holdsSquare(n uint64) bool {
	hi, lo := bits.Mul64(n, n)
	return hi < s.hi || hi == s.hi && lo <= s.lo
}

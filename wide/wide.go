// Package wide is layer 1: whole numbers of 128 bits, fractions held against one another: see shared/doc/01-wide.md.
package wide

import (
	"cmp"
	"math/bits"

	"paddock/api"
)

// Int is a whole number from -2^127 to 2^127 - 1: Hi times 2^64, and Lo.
type Int struct {
	Hi int64
	Lo uint64
}

// Of is a number of 64 bits (P1.1).
func Of(v int64) Int { return Int{Hi: v >> 63, Lo: uint64(v)} }

// Unsigned is one without a sign (P1.1).
func Unsigned(v uint64) Int { return Int{Lo: v} }

// Mul is a product (P1.1).
func Mul(a, b int64) Int {
	hi, lo := bits.Mul64(size64(a), size64(b))
	return size{hi, lo}.signed((a < 0) != (b < 0))
}

// Add is a sum (P1.2).
func (a Int) Add(b Int) Int {
	lo, carry := bits.Add64(a.Lo, b.Lo, 0)
	hi, _ := bits.Add64(uint64(a.Hi), uint64(b.Hi), carry)
	return Int{Hi: int64(hi), Lo: lo}
}

// Sub is a difference (P1.2).
func (a Int) Sub(b Int) Int {
	lo, borrow := bits.Sub64(a.Lo, b.Lo, 0)
	hi, _ := bits.Sub64(uint64(a.Hi), uint64(b.Hi), borrow)
	return Int{Hi: int64(hi), Lo: lo}
}

// Neg is the number with the other sign (P1.2).
func (a Int) Neg() Int { return Int{}.Sub(a) }

// Sign is -1, 0 or 1 (P1.3).
func (a Int) Sign() int { return a.Cmp(Int{}) }

// Cmp holds two numbers against one another (P1.3).
func (a Int) Cmp(b Int) int {
	if a == b {
		return 0
	}
	if a.Hi != b.Hi {
		return cmp.Compare(a.Hi, b.Hi)
	}
	return cmp.Compare(a.Lo, b.Lo)
}

// Int64 is the number, if 64 bits hold it (P1.3).
func (a Int) Int64() (int64, bool) {
	v := int64(a.Lo)
	if Of(v) != a {
		return 0, false
	}
	return v, true
}

// CmpMul holds a times b against c times d (P1.8).
func CmpMul(a, b, c, d int64) int { return Mul(a, b).Cmp(Mul(c, d)) }

// CmpFrac holds an / ad against bn / bd (P1.8).
func CmpFrac(an, ad, bn, bd int64) (int, api.Errno) {
	if ad == 0 || bd == 0 {
		return 0, api.ErrNought
	}
	// Both sides are taken ad * bd times: where that is below 0, they change places.
	if (ad < 0) != (bd < 0) {
		return CmpMul(bn, ad, an, bd), api.OK
	}
	return CmpMul(an, bd, bn, ad), api.OK
}

package turn

import (
	"math"

	"paddock/api"
	reals "paddock/real" // so that real stays what takes a complex number apart
)

// Each product below is converted by itself: without that it might be joined with a sum, and both rounded once. The language's own product of complex numbers may be joined so too, and its quotient goes another way.

// times is a · b.
func times(a, b complex128) complex128 {
	p, q, u, v := real(a), imag(a), real(b), imag(b)
	return complex(float64(p*u)-float64(q*v), float64(p*v)+float64(q*u))
}

// square is the square of a.
func square(a complex128) float64 {
	p, q := real(a), imag(a)
	return float64(p*p) + float64(q*q)
}

// by is a by b.
func by(a, b complex128) complex128 {
	p, q, u, v := real(a), imag(a), real(b), imag(b)
	return divided(complex(float64(p*u)+float64(q*v), float64(q*u)-float64(p*v)), square(b))
}

// divided is z with each of its parts divided by d.
func divided(z complex128, d float64) complex128 { return complex(real(z)/d, imag(z)/d) }

// finite tells whether neither part is infinite or NaN.
func finite(z complex128) bool { return bounded(real(z)) && bounded(imag(z)) }

// bounded tells whether x is neither infinite nor NaN, which is within no bounds.
func bounded(x float64) bool { return math.Abs(x) <= math.MaxFloat64 }

// alike tells whether both parts of two numbers are alike.
func alike(a, b complex128) bool {
	return reals.Compare(real(a), real(b)) == 0 && reals.Compare(imag(a), imag(b)) == 0
}

// way leads from p to q. A difference of two numbers of 32 bits has 33, which 64 hold, and a float64 too.
func way(p, q api.Point) (dx, dy int64) {
	return int64(q.X) - int64(p.X), int64(q.Y) - int64(p.Y)
}

// number is a way as a complex number.
func number(dx, dy int64) complex128 { return complex(float64(dx), float64(dy)) }

// place is a point as a complex number.
func place(p api.Point) complex128 { return number(int64(p.X), int64(p.Y)) }

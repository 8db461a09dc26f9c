package turn

import (
	"math"

	"paddock/api"
	reals "paddock/real" // so that real stays what takes a complex number apart
)

// Heading is the way from p to q, of the length 1 (P8.5).
func Heading(p, q api.Point) complex128 {
	if p == q {
		return 0
	}
	dx, dy := way(p, q)
	return divided(number(dx, dy), reals.Length(dx, dy))
}

// Mean is the heading in the middle of some (P8.5).
func Mean(hs ...complex128) complex128 {
	var sum complex128
	for _, h := range hs {
		sum += h
	}
	if sum == 0 || !finite(sum) {
		return 0
	}
	return divided(sum, math.Sqrt(square(sum)))
}

// Sector is in which of eight sectors a heading points; -1: in none (P8.6).
func Sector(h complex128) int8 {
	x, y := real(h), imag(h)
	// Each quarter has its first border and not its last one, so that 0 is in none of them. NaN is on no side of anything.
	switch {
	case x > 0 && y >= 0:
		return half(x, y)
	case y > 0 && x <= 0:
		return 2 + half(y, -x)
	case x < 0 && y <= 0:
		return 4 + half(-x, -y)
	case y < 0 && x >= 0:
		return 6 + half(-y, x)
	}
	return -1
}

// half is in which half of its quarter a heading points: how far it goes along the quarter's first border is held against how far along its last one.
func half(first, last float64) int8 {
	if last < first {
		return 0
	}
	return 1
}

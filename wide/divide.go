package wide

import "paddock/api"

// Quo divides, rounded so that what is left is not below 0, and tells what is left (P1.4).
func (a Int) Quo(d int64) (Int, uint64, api.Errno) {
	if d == 0 {
		return Int{}, 0, api.ErrNought
	}
	by := size64(d)
	q, rest := a.size().quo(by)
	if a.Hi < 0 && rest != 0 {
		// One step further from 0, so that the rest is counted upwards.
		q, rest = q.plus(1), by-rest
	}
	return q.signed((a.Hi < 0) != (d < 0)), rest, api.OK
}

// Sqrt is the square root, rounded down (P1.5).
func (a Int) Sqrt() (uint64, api.Errno) {
	if a.Hi < 0 {
		return 0, api.ErrNegative
	}
	s := a.size()
	root := uint64(0)
	for bit := uint64(1) << 63; bit != 0; bit >>= 1 {
		if s.holdsSquare(root | bit) {
			root |= bit
		}
	}
	return root, api.OK
}

// Gcd is the greatest number that divides both (P1.9).
func Gcd(a, b int64) uint64 {
	x, y := size64(a), size64(b)
	for y != 0 {
		x, y = y, x%y
	}
	return x
}

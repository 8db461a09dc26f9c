package point

import (
	"cmp"

	"paddock/api"
	"paddock/wide"
)

// way leads from o to p. A difference of two numbers of 32 bits has 33, so 64 hold it, but not always a product of two.
func way(o, p api.Point) (x, y int64) {
	return int64(p.X) - int64(o.X), int64(p.Y) - int64(o.Y)
}

// Cross is the cross product of a and b, seen from o (P4.3).
func Cross(o, a, b api.Point) int64 {
	ax, ay := way(o, a)
	bx, by := way(o, b)
	return ax*by - ay*bx
}

// Dot is their inner product (P4.3).
func Dot(o, a, b api.Point) int64 {
	ax, ay := way(o, a)
	bx, by := way(o, b)
	return ax*bx + ay*by
}

// Dist2 is the square of their distance (P4.3).
func Dist2(a, b api.Point) int64 { return Dot(a, b, b) }

// Turn tells to which side b lies of the way from o to a: 1 left, -1 right, 0 neither (P4.4).
func Turn(o, a, b api.Point) int {
	ax, ay := way(o, a)
	bx, by := way(o, b)
	// Cross goes round outside of the lattice, so its sign won't do.
	return wide.CmpMul(ax, by, ay, bx)
}

// On tells whether p is on the segment from a to b (P4.5).
func On(p, a, b api.Point) bool {
	box, _ := Bounds(a, b)
	return Has(box, p) && Turn(a, b, p) == 0
}

// Around holds the directions of a and b, seen from o, against one another (P4.6).
func Around(o, a, b api.Point) int {
	if c := cmp.Compare(half(o, a), half(o, b)); c != 0 {
		return c
	}
	// Within one half no two directions are as far as half a turn apart, so the turn alone tells which is first.
	return -Turn(o, a, b)
}

// half is in which half turn the direction from o to p lies: 1 the first, 2 the second, 0 if there is no direction.
func half(o, p api.Point) int {
	switch {
	case p == o:
		return 0
	case p.Y > o.Y || p.Y == o.Y && p.X > o.X:
		return 1
	}
	return 2
}

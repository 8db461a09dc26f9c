package seg

import (
	"paddock/api"
	"paddock/point"
	"paddock/wide"
)

// Foot is where along the segment from a to b the point nearest to p is (P5.2).
func Foot(p, a, b api.Point) api.Frac {
	if !ofLattice(p, a, b) {
		return api.Frac{Num: 0, Den: 1}
	}
	return foot(p, a, b)
}

func foot(p, a, b api.Point) api.Frac {
	if a == b {
		return api.Frac{Num: 0, Den: 1}
	}
	along, whole := point.Dot(a, b, p), point.Dist2(a, b)
	return lowest(min(max(along, 0), whole), whole)
}

// Near tells whether some point of the segment from a to b is no farther than r from p (P5.3).
func Near(p, a, b api.Point, r int64) bool {
	return r >= 0 && ofLattice(p, a, b) && near(p, a, b, r)
}

func near(p, a, b api.Point, r int64) bool {
	// No distance is above FarRadius, and the square of that is below 2^63.
	reach := min(r, api.FarRadius)
	square := reach * reach
	along, whole := point.Dot(a, b, p), point.Dist2(a, b)
	switch {
	case along <= 0:
		return point.Dist2(p, a) <= square
	case along >= whole:
		return point.Dist2(p, b) <= square
	}
	// The cross product is the distance from the line times the segment's length.
	cross := point.Cross(a, b, p)
	return wide.CmpMul(cross, cross, square, whole) <= 0
}

// NearSeg tells whether some points of two segments are no farther than r apart (P5.3).
func NearSeg(a, b, c, d api.Point, r int64) bool {
	ends := [4]api.Point{a, b, c, d}
	if r < 0 || !ofLattice(ends[:]...) {
		return false
	}
	return Touch(a, b, c, d) || endNear(ends, r)
}

// endNear tells whether some end is near the other segment: of two segments that do not meet, an end of one is nearest.
func endNear(ends [4]api.Point, r int64) bool {
	for i, e := range ends {
		// Of the places 0, 1 and 2, 3 these are the other two.
		if near(e, ends[i^2], ends[i^3], r) {
			return true
		}
	}
	return false
}

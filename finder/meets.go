package finder

import (
	"cmp"

	"paddock/api"
)

func onLattice(p api.Point) bool {
	return min(p.X, p.Y) >= -api.Bound && max(p.X, p.Y) <= api.Bound
}

// isRight tells whether a box is one, with corners of the lattice.
func isRight(b api.Box) bool {
	return onLattice(b.Min) && onLattice(b.Max) && b.Min.X <= b.Max.X && b.Min.Y <= b.Max.Y
}

// meets tells whether some point of the segment from p to q, of real numbers, is in a box: just if no upright line, no level one, and not the segment's own line lies between the two. All points are of the lattice.
func meets(b api.Box, p, q api.Point) bool {
	if max(p.X, q.X) < b.Min.X || b.Max.X < min(p.X, q.X) {
		return false
	}
	if max(p.Y, q.Y) < b.Min.Y || b.Max.Y < min(p.Y, q.Y) {
		return false
	}
	one, other := farCorners(b, p, q)
	return side(p, q, one)*side(p, q, other) <= 0
}

// farCorners are the two corners of a box that reach furthest to either side of the way from p to q: those ahead of and behind it are nearer to its line. (Where it is level or upright, either two will do.)
func farCorners(b api.Box, p, q api.Point) (one, other api.Point) {
	if (p.X < q.X) == (p.Y < q.Y) {
		return api.Point{X: b.Min.X, Y: b.Max.Y}, api.Point{X: b.Max.X, Y: b.Min.Y}
	}
	return b.Min, b.Max
}

// side is to which side of the way from p to q a point lies: 1 to the left, -1 to the right, 0 on its line (of one point: 0). Two coordinates of the lattice are less than 2^31 apart, so that each product is below 2^62 in size; they are held against one another, and not subtracted.
func side(p, q, c api.Point) int {
	dx, dy := int64(q.X)-int64(p.X), int64(q.Y)-int64(p.Y)
	cx, cy := int64(c.X)-int64(p.X), int64(c.Y)-int64(p.Y)
	return cmp.Compare(dx*cy, dy*cx)
}

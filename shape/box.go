package shape

import (
	"paddock/api"
	"paddock/point"
)

func ofLattice(p, q api.Point) bool { return point.In(p) && point.In(q) }

// boxOf is the least box that has some points.
func boxOf(v []api.Point) api.Box {
	box, _ := point.Bounds(v...)
	return box
}

// widened is a box of the lattice with each side moved outwards, at most to the lattice's edge. (What 2 * Bound leads to, 32 bits still hold.)
func widened(b api.Box, by int32) api.Box {
	return api.Box{
		Min: api.Point{X: max(b.Min.X-by, -api.Bound), Y: max(b.Min.Y-by, -api.Bound)},
		Max: api.Point{X: min(b.Max.X+by, api.Bound), Y: min(b.Max.Y+by, api.Bound)},
	}
}

package shape

import (
	"paddock/api"
	"paddock/point"
)

// rect is a box with its edge; it may be a line, or a point.
type rect struct {
	box api.Box
}

// Covers tells whether it has a point (P9.2).
func (a *rect) Covers(p api.Point) bool { return point.Has(a.box, p) }

// Meets tells whether it has a point of a segment (P9.2).
func (a *rect) Meets(p, q api.Point) bool {
	return ofLattice(p, q) && (a.Covers(p) || sideMeets(a.corners(), p, q))
}

// corners are the four corners, one behind the other round the box.
func (a *rect) corners() []api.Point {
	low, high := a.box.Min, a.box.Max
	return []api.Point{low, {X: high.X, Y: low.Y}, high, {X: low.X, Y: high.Y}}
}

// Bounds is the box itself (P9.2).
func (a *rect) Bounds() api.Box { return a.box }

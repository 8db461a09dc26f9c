package shape

import (
	"paddock/api"
	"paddock/seg"
)

// disc is what is no farther from a point than its radius.
type disc struct {
	middle api.Point
	radius int32
}

// Covers tells whether it has a point (P9.2).
func (a *disc) Covers(p api.Point) bool { return a.Meets(p, p) }

// Meets tells whether it has a point of a segment (P9.2).
func (a *disc) Meets(p, q api.Point) bool { return seg.Near(a.middle, p, q, int64(a.radius)) }

// Bounds is the least box that has it, as far as the lattice goes (P9.2).
func (a *disc) Bounds() api.Box {
	return widened(api.Box{Min: a.middle, Max: a.middle}, a.radius)
}

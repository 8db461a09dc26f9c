package shape

import (
	"slices"

	"paddock/api"
	"paddock/inside"
	"paddock/ring"
	"paddock/seg"
)

// poly is what is in a ring, without what is in its holes.
type poly struct {
	verts []api.Point
	holes [][]api.Point
}

func newPoly(verts []api.Point, holes [][]api.Point) *poly {
	own := &poly{verts: slices.Clone(verts)}
	for _, h := range holes {
		own.holes = append(own.holes, slices.Clone(h))
	}
	return own
}

// Covers tells whether it has a point (P9.2).
func (a *poly) Covers(p api.Point) bool { return inside.With(a.verts, a.holes, p) }

// Meets tells whether it has a point of a segment (P9.2).
func (a *poly) Meets(p, q api.Point) bool {
	return ofLattice(p, q) && (a.Covers(p) || a.edgeMeets(p, q))
}

// edgeMeets tells whether a segment has a point of the edge, which is all of the set that can be reached first from outside of it, or out of a hole.
func (a *poly) edgeMeets(p, q api.Point) bool {
	if sideMeets(a.verts, p, q) {
		return true
	}
	for _, h := range a.holes {
		if sideMeets(h, p, q) {
			return true
		}
	}
	return false
}

// sideMeets tells whether a segment has a point of a ring's edges.
func sideMeets(v []api.Point, p, q api.Point) bool {
	for from, to := range ring.Edges(v) {
		if seg.Touch(from, to, p, q) {
			return true
		}
	}
	return false
}

// Bounds is the least box that has it (P9.2).
func (a *poly) Bounds() api.Box { return boxOf(a.verts) }

package shape

import (
	"paddock/api"
	"paddock/seg"
)

// corridor is what is no farther than half its width from one of the segments between its bends.
type corridor struct {
	bends []api.Point
	reach int32
}

// Covers tells whether it has a point (P9.2).
func (a *corridor) Covers(p api.Point) bool { return a.Meets(p, p) }

// Meets tells whether it has a point of a segment (P9.2).
func (a *corridor) Meets(p, q api.Point) bool {
	for i, to := range a.bends[1:] {
		if seg.NearSeg(a.bends[i], to, p, q, int64(a.reach)) {
			return true
		}
	}
	return false
}

// Bounds is a box that has it, as far as the lattice goes (P9.2).
func (a *corridor) Bounds() api.Box { return widened(boxOf(a.bends), a.reach) }

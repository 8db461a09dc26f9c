package inside

import (
	"paddock/api"
	"paddock/ring"
	"paddock/wide"
)

// Counts tells how many points of the lattice lie within a ring, and on its edge (P7.6).
func Counts(v []api.Point) (within, edge int64, e api.Errno) {
	if reason, _, _ := ring.Check(v); reason != api.OK {
		return 0, 0, reason
	}
	edge = total(v, steps)
	// Twice the area of a ring is below 2^63, and hangs on both counts (P7.10).
	twice, _ := ring.Area2(v).Int64()
	return (max(twice, -twice) - edge + 2) / 2, edge, api.OK
}

// steps is how many points of the lattice lie on a side, one of its ends left out: a ring's next side has it.
func steps(a, b api.Point) int64 {
	return int64(wide.Gcd(int64(b.X)-int64(a.X), int64(b.Y)-int64(a.Y)))
}

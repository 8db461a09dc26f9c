package inside

import (
	"iter"

	"paddock/api"
	"paddock/point"
)

// sides goes through the sides of a ring, each with its two ends. It looks at the list itself, since no caller keeps it longer than its own call.
func sides(v []api.Point) iter.Seq2[api.Point, api.Point] {
	return func(yield func(a, b api.Point) bool) {
		for i, a := range v {
			if !yield(a, v[(i+1)%len(v)]) {
				return
			}
		}
	}
}

// some tells whether something is so of one of the sides.
func some(v []api.Point, is func(a, b api.Point) bool) bool {
	for a, b := range sides(v) {
		if is(a, b) {
			return true
		}
	}
	return false
}

// total is what all sides together are worth.
func total(v []api.Point, worth func(a, b api.Point) int64) int64 {
	var sum int64
	for a, b := range sides(v) {
		sum += worth(a, b)
	}
	return sum
}

// past is 1 of a side that rises past p to the right of it, -1 of one that falls, 0 of others. A side's upper end does not count, so that a ray through a vertex crosses one of its two sides, both or none, as the ring itself goes past there.
func past(a, b, p api.Point) int64 {
	switch {
	case a.Y <= p.Y && p.Y < b.Y && point.Turn(a, b, p) == 1:
		return 1
	case b.Y <= p.Y && p.Y < a.Y && point.Turn(a, b, p) == -1:
		return -1
	}
	return 0
}

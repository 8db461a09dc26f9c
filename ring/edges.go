package ring

import (
	"iter"
	"slices"

	"paddock/api"
	"paddock/point"
	"paddock/wide"
)

// Edges goes through the edges, by number, each with its two ends (P6.3).
func Edges(v []api.Point) iter.Seq2[api.Point, api.Point] {
	// The caller may change the list ahead of going through the edges.
	list := slices.Clone(v)
	return func(yield func(api.Point, api.Point) bool) {
		for i, p := range list {
			if !yield(p, list[next(list, i)]) {
				return
			}
		}
	}
}

// Bounds is the least box around all points (P6.3).
func Bounds(v []api.Point) (api.Box, bool) { return point.Bounds(v...) }

// Area2 is twice the area, above 0 if the ring goes round against the clock (P6.2).
func Area2(v []api.Point) wide.Int {
	var sum wide.Int
	for a, b := range Edges(v) {
		sum = sum.Add(wide.Mul(int64(a.X), int64(b.Y))).Sub(wide.Mul(int64(a.Y), int64(b.X)))
	}
	return sum
}

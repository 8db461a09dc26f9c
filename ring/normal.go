package ring

import (
	"iter"
	"slices"

	"paddock/api"
	"paddock/point"
)

// Normal is the one form of all rings with the same edges (P6.4).
func Normal(v []api.Point) ([]api.Point, api.Errno) {
	if reason, _, _ := Check(v); reason != api.OK {
		return nil, reason
	}
	corners := bends(v)
	if Area2(corners).Sign() < 0 {
		slices.Reverse(corners)
	}
	return begunLeast(corners), api.OK
}

// bends are the vertices at which a ring turns. The others lie between their neighbours: a ring does not go straight back.
func bends(v []api.Point) []api.Point {
	var list []api.Point
	for p, side := range turns(v) {
		if side != 0 {
			list = append(list, p)
		}
	}
	return list
}

// turns goes through the vertices of a ring, each with the side to which it turns there: 1 left, -1 right, 0 neither.
func turns(v []api.Point) iter.Seq2[api.Point, int] {
	return func(yield func(api.Point, int) bool) {
		before := v[len(v)-1]
		for a, b := range Edges(v) {
			if !yield(a, point.Turn(before, a, b)) {
				return
			}
			before = a
		}
	}
}

// begunLeast is the same way round, begun with the least vertex.
func begunLeast(v []api.Point) []api.Point {
	least := slices.Index(v, slices.MinFunc(v, point.Cmp))
	return slices.Concat(v[least:], v[:least])
}

// Convex tells whether v is a ring that turns to one side alone (P6.5).
func Convex(v []api.Point) bool {
	normal, reason := Normal(v)
	if reason != api.OK {
		return false
	}
	for _, side := range turns(normal) {
		if side < 0 {
			return false
		}
	}
	return true
}

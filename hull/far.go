package hull

import (
	"iter"
	"slices"

	"paddock/api"
	"paddock/point"
	"paddock/wide"
)

// Far is a pair of points that are as far apart as any two (P10.4).
func Far(v []api.Point) (i, j int, d2 int64) {
	if len(v) < 2 {
		return 0, 0, 0
	}
	lower, upper := halves(v)
	if len(lower) == 1 {
		return 0, 1, 0
	}
	others := furthest(lower, upper)
	i = slices.IndexFunc(v, func(p api.Point) bool { return len(others[p]) > 0 })
	// Behind i, since it would be the first one otherwise.
	j = slices.IndexFunc(v, func(p api.Point) bool { return slices.Contains(others[v[i]], p) })
	return i, j, point.Dist2(v[i], v[j])
}

// furthest is, of each corner that is furthest from another, all those others.
func furthest(lower, upper []api.Point) map[api.Point][]api.Point {
	var most wide.Int
	others := map[api.Point][]api.Point{}
	for a, b := range opposite(lower, upper) {
		apart := distance2(a, b)
		order := apart.Cmp(most)
		if order > 0 {
			most = apart
			clear(others)
		}
		if order >= 0 {
			others[a] = append(others[a], b)
			others[b] = append(others[b], a)
		}
	}
	return others
}

// opposite tells the pairs of corners between which the hull can be held by two lines of one direction that touch it at these corners alone. Lines at right angles to the way between two furthest points are such, so that all of those are among them.
func opposite(lower, upper []api.Point) iter.Seq2[api.Point, api.Point] {
	return func(yield func(a, b api.Point) bool) {
		low, high := lower, upper
		for yield(low[0], high[0]) && len(low)+len(high) > 2 {
			side := firstToTurn(low, high)
			if side <= 0 {
				low = low[1:]
			}
			if side >= 0 {
				high = high[1:]
			}
		}
	}
}

// firstToTurn tells which half leaves its first corner first as both lines are turned: -1 the lower one, 1 the upper one, 0 both at once. A half at its end never does.
func firstToTurn(lower, upper []api.Point) int {
	if len(lower) == 1 {
		return 1
	}
	if len(upper) == 1 {
		return -1
	}
	ax, ay := difference(lower[0], lower[1])
	bx, by := difference(upper[0], upper[1])
	return wide.CmpMul(ax, by, ay, bx)
}

// distance2 is exact at all coordinates, where layer 4's goes round.
func distance2(a, b api.Point) wide.Int {
	x, y := difference(a, b)
	return wide.Mul(x, x).Add(wide.Mul(y, y))
}

func difference(a, b api.Point) (x, y int64) {
	return int64(b.X) - int64(a.X), int64(b.Y) - int64(a.Y)
}

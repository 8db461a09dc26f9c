package grid

import (
	"iter"
	"maps"
	"slices"

	"paddock/api"
	"paddock/cell"
)

// At tells the numbers of what is listed in a point's cell, or apart (P12.3).
func (g *Grid) At(p api.Point) iter.Seq[uint32] {
	// A segment of one point has a part of that point's cell alone.
	return g.Crossing(p, p)
}

// Crossing tells the numbers of what is listed in a cell of a segment, or apart; of a long one, all numbers (P12.4).
func (g *Grid) Crossing(p, q api.Point) iter.Seq[uint32] {
	if g.isNone() {
		return slices.Values([]uint32(nil))
	}
	around := boxOf(p, q)
	if !g.isRight(around) {
		return slices.Values([]uint32(nil))
	}
	if g.isWide(around) {
		return rising(g.boxes)
	}
	return rising(g.listed(cell.Line(p, q, g.size)))
}

// listed gathers the numbers of what is listed in these cells, and of what is apart. They are gathered in a set, since a box may be listed in very many of the cells.
func (g *Grid) listed(cells iter.Seq[api.Cell]) map[uint32]struct{} {
	found := maps.Clone(g.apart)
	for c := range cells {
		for _, id := range g.lists[c] {
			found[id] = struct{}{}
		}
	}
	return found
}

// rising tells a map's keys in their order. They are gathered at once, so that what is done to the map later does not show.
func rising[V any](byNumber map[uint32]V) iter.Seq[uint32] {
	return slices.Values(slices.Sorted(maps.Keys(byNumber)))
}

// boxOf is the least box that has both points. It is right just if both are on the lattice.
func boxOf(p, q api.Point) api.Box {
	return api.Box{
		Min: api.Point{X: min(p.X, q.X), Y: min(p.Y, q.Y)},
		Max: api.Point{X: max(p.X, q.X), Y: max(p.Y, q.Y)},
	}
}

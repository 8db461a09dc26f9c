package cell

import (
	"iter"

	"paddock/api"
)

// Line goes through the cells that a segment has a part of, column by column (P11.3).
func Line(p, q api.Point, size int64) iter.Seq[api.Cell] {
	return func(yield func(api.Cell) bool) {
		if !isSize(size) || !isPlace(p) || !isPlace(q) {
			return
		}
		for low, high := range columns(p, q, size) {
			for c := range run(low, high, api.Cell{Y: 1}) {
				if !yield(c) {
					return
				}
			}
		}
	}
}

// columns tells the lowest and the highest cell of each column that a segment has a part of. All between them have a part of it too.
func columns(p, q api.Point, size int64) iter.Seq2[api.Cell, api.Cell] {
	if p.X > q.X {
		p, q = q, p
	}
	return func(yield func(low, high api.Cell) bool) {
		enter, end := holder(p, size), holder(q, size)
		for enter.X < end.X {
			leave, next := atEdge(p, q, enter.X+1, size)
			if !yield(byHeight(enter, leave)) {
				return
			}
			enter = next
		}
		yield(byHeight(enter, end))
	}
}

// atEdge is the cell in which a segment that goes right, from p to q, is just ahead of the left edge of the column x, and the one in which it is there.
func atEdge(p, q api.Point, x int32, size int64) (before, there api.Cell) {
	across, up := int64(q.X)-int64(p.X), int64(q.Y)-int64(p.Y)
	// What it has risen by at the edge, times across. Its size is below 2^62, since the edge is not beyond q.
	risen := up * (int64(x)*size - int64(p.X))
	row := func(risen int64) int32 {
		return int32(floor(int64(p.Y)+floor(risen, across), size))
	}
	before, there = api.Cell{X: x - 1, Y: row(risen)}, api.Cell{X: x, Y: row(risen)}
	if up > 0 {
		// Ahead of the edge it has risen by less, so that it is not yet in a row that begins just there; of whole numbers, what is less is at least one less.
		before.Y = row(risen - 1)
	}
	return before, there
}

// byHeight is two cells of one column, the lower one first.
func byHeight(a, b api.Cell) (low, high api.Cell) {
	if a.Y > b.Y {
		return b, a
	}
	return a, b
}

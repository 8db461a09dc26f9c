package cell

import (
	"math/big"
	"math/rand"
	"slices"
	"testing"

	"paddock/api"
)

// bound is an end of a stretch of numbers, that is of it or not.
type bound struct {
	n    *big.Rat
	open bool
}

// inner is the one of two bounds that leaves less, of those from below (1) or from above (-1).
func inner(a, b bound, way int) bound {
	if order := a.n.Cmp(b.n) * way; order > 0 || order == 0 && a.open {
		return a
	}
	return b
}

// clip is what a coordinate that goes from a to b lets stand of the way from low to high (0 at a, 1 at b): where it is in the cells of x. False, if that is nothing.
func clip(low, high bound, a, b, x int32, size int64) (bound, bound, bool) {
	if a == b {
		return low, high, holds(x, a, size)
	}
	by := big.NewInt(int64(b) - int64(a))
	where := func(edge *big.Int) *big.Rat {
		return new(big.Rat).SetFrac(new(big.Int).Sub(edge, big.NewInt(int64(a))), by)
	}
	first, last := bound{where(begins(int64(x), size)), false}, bound{where(begins(int64(x)+1, size)), true}
	if a > b {
		first, last = last, first
	}
	low, high = inner(low, first, 1), inner(high, last, -1)
	order := low.n.Cmp(high.n)
	return low, high, order < 0 || order == 0 && !low.open && !high.open
}

// touches is P11.3 by the words: some point of the segment, of real numbers, is in the cell.
func touches(c api.Cell, p, q api.Point, size int64) bool {
	low, high := bound{new(big.Rat), false}, bound{big.NewRat(1, 1), false}
	low, high, ok := clip(low, high, p.X, q.X, c.X, size)
	if ok {
		_, _, ok = clip(low, high, p.Y, q.Y, c.Y, size)
	}
	return ok
}

// wanted are all cells that a segment has a part of, by X, of one X by Y.
func wanted(p, q api.Point, size int64) []api.Cell {
	var list []api.Cell
	for _, x := range around(min(p.X, q.X), max(p.X, q.X), size) {
		for _, y := range around(min(p.Y, q.Y), max(p.Y, q.Y), size) {
			if touches(cellOf(x, y), p, q, size) {
				list = append(list, cellOf(x, y))
			}
		}
	}
	return list
}

// wantLine fails, unless Line is what the words say, from both ends.
func wantLine(t *testing.T, p, q api.Point, size int64) []api.Cell {
	t.Helper()
	want := wanted(p, q, size)
	if got := slices.Collect(Line(p, q, size)); !slices.Equal(got, want) {
		t.Errorf("Line(%v, %v, %d): %v, want %v", p, q, size, got, want)
	}
	if got := slices.Collect(Line(q, p, size)); !slices.Equal(got, want) {
		t.Errorf("Line(%v, %v, %d): %v, want %v", q, p, size, got, want)
	}
	return want
}

// P11.3, P11.8: all segments about the middle.
func TestLine(t *testing.T) {
	points := grid(from(-3, 3)...)
	for size := int64(1); size < 6; size++ {
		for i, p := range points {
			for _, q := range points[i:] {
				wantLine(t, p, q, size)
			}
		}
	}
}

// thrown are the ends of a segment, and a size: of any place and size, near the lattice's ends, level, upright, through many corners of cells, or close by them.
func thrown(r *rand.Rand) (p, q api.Point, size int64) {
	p, q = anywhere(r), anywhere(r)
	switch r.Intn(6) {
	case 0:
		rim := []int32{-edge, 1 - edge, -1, 0, 1, edge - 1, edge}
		p = at(rim[r.Intn(len(rim))], rim[r.Intn(len(rim))])
		q = at(rim[r.Intn(len(rim))], rim[r.Intn(len(rim))])
	case 1:
		q.Y = p.Y
	case 2:
		q.X = p.X
	case 3:
		return cornered(r)
	}
	return p, q, fitting(r, p, q, 9)
}

// cornered are ends at or beside corners where cells meet.
func cornered(r *rand.Rand) (p, q api.Point, size int64) {
	size = 1 + r.Int63n(edge/12)>>r.Intn(27)
	corner := func() api.Point {
		return at(int32(size)*int32(r.Intn(9)-4), int32(size)*int32(r.Intn(9)-4))
	}
	p, q = corner(), corner()
	if r.Intn(2) == 0 {
		q = at(q.X+int32(r.Intn(3)-1), q.Y+int32(r.Intn(3)-1))
	}
	return p, q, size
}

// P11.3, P11.8: segments of anywhere.
func TestLineAnywhere(t *testing.T) {
	r := rand.New(rand.NewSource(6))
	for range 6000 {
		p, q, size := thrown(r)
		wantLine(t, p, q, size)
	}
}

// P11.3: the lattice's corners, middles of its sides and middle, at great sizes.
func TestLineOfGreatSizes(t *testing.T) {
	points := grid(-edge, 1-edge, 0, edge-1, edge)
	for _, size := range []int64{edge/3 + 1, edge / 3, edge - 1, edge, edge + 1, edge + 2, api.MaxCell - 1, api.MaxCell} {
		for i, p := range points {
			for _, q := range points[i:] {
				wantLine(t, p, q, size)
			}
		}
	}
}

// P11.3, P11.8
func TestLineByHand(t *testing.T) {
	for _, x := range []struct {
		what string
		p, q api.Point
		size int64
		want []api.Cell
	}{
		{"the chapter's, rising through corners", at(0, 0), at(4, 4), 2, cellsOf(0, 0, 1, 1, 2, 2)},
		{"the chapter's, falling through corners", at(0, 4), at(4, 0), 2, cellsOf(0, 1, 0, 2, 1, 0, 1, 1, 2, 0)},
		{"the chapter's, of one point", at(1, 1), at(1, 1), 2, cellsOf(0, 0)},
		{"the chapter's, upright", at(5, 0), at(5, 9), 4, cellsOf(1, 0, 1, 1, 1, 2)},
		{"of one point, below 0", at(-1, -4), at(-1, -4), 4, cellsOf(-1, -1)},
		{"of one point, at a corner", at(4, -4), at(4, -4), 4, cellsOf(1, -1)},
		{"within one cell", at(1, 3), at(3, 1), 4, cellsOf(0, 0)},
		{"level", at(-5, 1), at(5, 1), 4, cellsOf(-2, 0, -1, 0, 0, 0, 1, 0)},
		{"level, along an edge", at(-5, 4), at(5, 4), 4, cellsOf(-2, 1, -1, 1, 0, 1, 1, 1)},
		{"level, along an edge, to one", at(0, 4), at(4, 4), 4, cellsOf(0, 1, 1, 1)},
		{"upright, along an edge", at(4, -5), at(4, 4), 4, cellsOf(1, -2, 1, -1, 1, 0, 1, 1)},
		{"rising, to an edge of both", at(1, 1), at(4, 4), 4, cellsOf(0, 0, 1, 1)},
		{"rising, to an edge above", at(1, 1), at(3, 4), 4, cellsOf(0, 0, 0, 1)},
		{"rising, to an edge on the right", at(1, 1), at(4, 3), 4, cellsOf(0, 0, 1, 0)},
		{"falling, past a corner, below", at(0, 4), at(3, 0), 2, cellsOf(0, 0, 0, 1, 0, 2, 1, 0)},
		{"falling, past a corner, above", at(1, 4), at(4, 0), 2, cellsOf(0, 1, 0, 2, 1, 0, 1, 1, 2, 0)},
		{"rising, past a corner, below", at(0, 0), at(4, 3), 2, cellsOf(0, 0, 1, 0, 1, 1, 2, 1)},
		{"rising, past a corner, above", at(0, 0), at(3, 4), 2, cellsOf(0, 0, 0, 1, 1, 1, 1, 2)},
		{"falling, from a corner", at(2, 2), at(3, 1), 2, cellsOf(1, 0, 1, 1)},
		{"falling, to a corner", at(1, 3), at(2, 2), 2, cellsOf(0, 1, 1, 1)},
		{"steep", at(0, 0), at(1, 7), 2, cellsOf(0, 0, 0, 1, 0, 2, 0, 3)},
		{"steep, over an edge", at(1, 0), at(2, 7), 2, cellsOf(0, 0, 0, 1, 0, 2, 0, 3, 1, 3)},
		{"of the least size", at(-1, -1), at(2, 0), 1, cellsOf(-1, -1, 0, -1, 1, -1, 2, 0)},
		{"the lattice's corners, of the greatest size", at(-edge, -edge), at(edge, edge), api.MaxCell, cellsOf(-1, -1, 0, 0)},
		{"the other ones", at(-edge, edge), at(edge, -edge), api.MaxCell, cellsOf(-1, 0, 0, -1, 0, 0)},
		{"just beside the middle, below", at(-edge, edge-1), at(edge, -edge), api.MaxCell, cellsOf(-1, -1, -1, 0, 0, -1)},
		{"just beside the middle, above", at(-edge, -edge), at(edge, edge-1), api.MaxCell, cellsOf(-1, -1, 0, -1, 0, 0)},
		{"and on the other side of it", at(-edge, 1-edge), at(edge, edge), api.MaxCell, cellsOf(-1, -1, -1, 0, 0, 0)},
	} {
		for range 2 {
			if got := slices.Collect(Line(x.p, x.q, x.size)); !slices.Equal(got, x.want) {
				t.Errorf("%s, from %v to %v: %v, want %v", x.what, x.p, x.q, got, x.want)
			}
			x.p, x.q = x.q, x.p
		}
	}
}

// P11.3, P0.1
func TestLineOfNone(t *testing.T) {
	right := []api.Point{at(0, 0), at(7, -7), at(edge, edge), at(-edge, -edge)}
	for _, p := range outside() {
		for _, size := range append(sizes(), noSizes()...) {
			for _, q := range append(right, p, at(least, least), at(greatest, greatest)) {
				nothing(t, "Line from off the lattice", Line(p, q, size))
				nothing(t, "Line to off the lattice", Line(q, p, size))
			}
		}
	}
	for _, size := range noSizes() {
		for _, p := range right {
			for _, q := range right {
				nothing(t, "Line of no size", Line(p, q, size))
			}
		}
	}
}

// P11.6
func TestLineAgainAndLeftEarly(t *testing.T) {
	for _, x := range []struct{ p, q api.Point }{
		{at(3, 3), at(3, 3)}, {at(-1, 0), at(12, 0)}, {at(0, -1), at(0, 12)}, {at(-3, -5), at(5, 6)}, {at(-3, 6), at(5, -5)}, {at(5, -5), at(-3, 6)},
	} {
		wantIterator(t, "Line", Line(x.p, x.q, 3), slices.Collect(Line(x.p, x.q, 3)))
	}
}

// P11.6: very many would follow, in one column or in many.
func TestLineLeftAtOnce(t *testing.T) {
	soon(t, "Line", func() {
		for range 1000 {
			for _, x := range []struct {
				p, q api.Point
				want []api.Cell
			}{
				{at(-edge, -edge), at(edge, edge), cellsOf(-edge, -edge, 1-edge, 1-edge, 2-edge, 2-edge)},
				{at(-edge, edge), at(edge, -edge), cellsOf(-edge, edge-1, -edge, edge, 1-edge, edge-2)},
				{at(-edge, 5), at(edge, 5), cellsOf(-edge, 5, 1-edge, 5, 2-edge, 5)},
				{at(5, -edge), at(5, edge), cellsOf(5, -edge, 5, 1-edge, 5, 2-edge)},
				{at(5, -edge), at(6, edge), cellsOf(5, -edge, 5, 1-edge, 5, 2-edge)},
				{at(5, edge), at(6, -edge), cellsOf(5, -edge, 5, 1-edge, 5, 2-edge)},
			} {
				for n := 1; n <= 3; n++ {
					if got := firstOf(n, Line(x.p, x.q, 1)); !slices.Equal(got, x.want[:n]) {
						t.Errorf("Line(%v, %v, 1) begins with %v", x.p, x.q, got)
					}
				}
			}
		}
	})
}

// P11.3: the beginnings of what is too long to be gone through.
func TestLineBegins(t *testing.T) {
	for _, x := range []struct{ p, q api.Point }{
		{at(-edge, -edge), at(edge, edge-1)}, {at(-edge, 1-edge), at(edge, edge)}, {at(-edge, edge), at(edge, 1-edge)}, {at(-edge, edge-1), at(edge, -edge)},
		{at(-edge, -7), at(edge, 7)}, {at(-edge, 7), at(edge, -7)}, {at(-edge, -edge), at(edge, edge/3)}, {at(edge-500, -1000), at(edge, edge)}, {at(edge-500, edge), at(edge, 7)},
	} {
		told := firstOf(500, Line(x.p, x.q, 1))
		for i, c := range told {
			if !touches(c, x.p, x.q, 1) {
				t.Errorf("Line(%v, %v, 1) tells %v", x.p, x.q, c)
			}
			if i == 0 {
				continue
			}
			// Of the cells behind the last one that was told, in its column and in the next one, this is the first that has a part.
			last := told[i-1]
			above := cellOf(last.X, last.Y+1)
			if c != above && (touches(above, x.p, x.q, 1) || c.X != last.X+1 || touches(cellOf(c.X, c.Y-1), x.p, x.q, 1)) {
				t.Errorf("Line(%v, %v, 1) tells %v behind %v", x.p, x.q, c, last)
			}
		}
	}
}

// columnsOf are the Ys of each X, as they are told; what is behind another X once more is a fault.
func columnsOf(t *testing.T, told []api.Cell) map[int32][]int32 {
	t.Helper()
	list := map[int32][]int32{}
	for i, c := range told {
		if i > 0 && (told[i-1].X > c.X || told[i-1].X == c.X && told[i-1].Y >= c.Y) {
			t.Errorf("%v is told behind %v", c, told[i-1])
		}
		list[c.X] = append(list[c.X], c.Y)
	}
	return list
}

// wantNeighbours fails, unless the cells are one behind another as P11.8 says.
func wantNeighbours(t *testing.T, what string, told []api.Cell) {
	t.Helper()
	list := columnsOf(t, told)
	for x := told[0].X; x <= told[len(told)-1].X; x++ {
		ys, next := list[x], list[x+1]
		if len(ys) == 0 || int(ys[len(ys)-1]-ys[0]) != len(ys)-1 {
			t.Errorf("%s: of the X %d the Ys are %v", what, x, ys)
			return
		}
		if len(next) > 0 && (next[0] > ys[len(ys)-1]+1 || next[len(next)-1] < ys[0]-1) {
			t.Errorf("%s: from the X %d on the Ys are %v, %v", what, x, ys, next)
		}
	}
}

// P11.8
func TestLineAndCover(t *testing.T) {
	r := rand.New(rand.NewSource(7))
	for range 6000 {
		p, q, size := thrown(r)
		told := slices.Collect(Line(p, q, size))
		for _, end := range []api.Point{p, q} {
			if c, _ := Of(end, size); !slices.Contains(told, c) {
				t.Errorf("Line(%v, %v, %d) does not tell %v", p, q, size, c)
			}
		}
		if back := slices.Collect(Line(q, p, size)); !slices.Equal(back, told) {
			t.Errorf("Line(%v, %v, %d): %v, and back %v", p, q, size, told, back)
		}
		b := boxOf(min(p.X, q.X), min(p.Y, q.Y), max(p.X, q.X), max(p.Y, q.Y))
		all := slices.Collect(Cover(b, size))
		for _, c := range told {
			if !slices.Contains(all, c) {
				t.Errorf("Line(%v, %v, %d) tells %v, which Cover does not", p, q, size, c)
			}
		}
		wantNeighbours(t, "Line", told)
	}
}

// P11.3, P11.8: very many columns, from one end of the lattice to the other.
func TestLineOfManyColumns(t *testing.T) {
	for _, x := range []struct{ p, q api.Point }{
		{at(-edge, -edge), at(edge, edge)}, {at(-edge, edge), at(edge, -edge)}, {at(-edge, 3-edge), at(edge, edge)}, {at(-edge, edge), at(edge, 5-edge)},
		{at(-edge, -3), at(edge, 4)}, {at(-edge, 1<<20), at(edge, -(1 << 20))}, {at(-edge, -edge), at(edge, 12345)},
	} {
		const size = 1 << 16
		told := slices.Collect(Line(x.p, x.q, size))
		wantNeighbours(t, "Line", told)
		for i, c := range told {
			if !touches(c, x.p, x.q, size) {
				t.Errorf("Line(%v, %v, %d) tells %v", x.p, x.q, size, c)
			}
			for _, beside := range []api.Cell{cellOf(c.X, c.Y-1), cellOf(c.X, c.Y+1)} {
				near := told[max(i-1, 0):min(i+2, len(told))]
				if !slices.Contains(near, beside) && touches(beside, x.p, x.q, size) {
					t.Errorf("Line(%v, %v, %d) does not tell %v", x.p, x.q, size, beside)
				}
			}
		}
		for _, end := range []api.Point{x.p, x.q} {
			if c, _ := Of(end, size); !slices.Contains(told, c) {
				t.Errorf("Line(%v, %v, %d) does not tell %v", x.p, x.q, size, c)
			}
		}
	}
}

package cell

import (
	"math/big"
	"math/rand"
	"slices"
	"testing"

	"paddock/api"
)

// wantOf fails, unless Of is a cell that has the point by the words.
func wantOf(t *testing.T, p api.Point, size int64) {
	t.Helper()
	c, e := Of(p, size)
	if e != api.OK || !holds(c.X, p.X, size) || !holds(c.Y, p.Y, size) {
		t.Errorf("Of(%v, %d): %v, %d", p, size, c, e)
	}
}

// P11.1: any point, those off the lattice too.
func TestOf(t *testing.T) {
	points := grid(least, least+1, -edge-2, -edge-1, -edge, -11, -10, -9, -1, 0, 1, 9, 10, 11, edge, edge+1, edge+2, greatest-1, greatest)
	r := rand.New(rand.NewSource(1))
	for range 300 {
		points = append(points, spread32(r), anywhere(r))
	}
	for _, p := range points {
		for _, size := range sizes() {
			wantOf(t, p, size)
		}
		wantOf(t, p, 1+r.Int63n(api.MaxCell))
		wantOf(t, p, 1+r.Int63n(api.MaxCell)>>r.Intn(31))
	}
}

// P11.1
func TestOfByHand(t *testing.T) {
	for _, x := range []struct {
		p    api.Point
		size int64
		want api.Cell
	}{
		{at(-1, 0), 10, cellOf(-1, 0)},
		{at(9, 10), 10, cellOf(0, 1)},
		{at(-1073741823, 5), 2147483648, cellOf(-1, 0)},
		{at(-10, -11), 10, cellOf(-1, -2)},
		{at(-9, 0), 10, cellOf(-1, 0)},
		{at(20, -20), 10, cellOf(2, -2)},
		{at(19, 21), 10, cellOf(1, 2)},
		{at(7, -7), 1, cellOf(7, -7)},
		{at(least, greatest), 1, cellOf(least, greatest)},
		{at(least, greatest), 2, cellOf(-1<<30, 1<<30-1)},
		{at(least, greatest), 3, cellOf(-715827883, 715827882)},
		{at(least, greatest), api.MaxCell, cellOf(-1, 0)},
		{at(least, greatest), api.MaxCell - 1, cellOf(-2, 1)},
		{at(edge, -edge), edge, cellOf(1, -1)},
		{at(edge, -edge), edge + 1, cellOf(0, -1)},
		{at(edge, -edge), edge - 1, cellOf(1, -2)},
	} {
		if got, e := Of(x.p, x.size); got != x.want || e != api.OK {
			t.Errorf("Of(%v, %d): %v, %d, want %v", x.p, x.size, got, e, x.want)
		}
	}
}

// P11.1, P0.1: beside the error no cell is told.
func TestOfNoSize(t *testing.T) {
	for _, size := range noSizes() {
		for _, p := range append(outside(), at(0, 0), at(25, -25), at(edge, edge)) {
			if c, e := Of(p, size); c != (api.Cell{}) || e != api.ErrArg {
				t.Errorf("Of(%v, %d): %v, %d", p, size, c, e)
			}
		}
	}
}

// shares is the words' own, in one coordinate: a cell has a number, whole or not, that is from a to b.
func shares(x int32, a, b int32, size int64) bool {
	low, high := begins(int64(x), size), begins(int64(x)+1, size)
	return low.Cmp(big.NewInt(int64(b))) <= 0 && big.NewInt(int64(a)).Cmp(high) < 0
}

// covered are the cells among some that have a point of a box, in the order of their list.
func covered(b api.Box, size int64, among []api.Cell) []api.Cell {
	var list []api.Cell
	for _, c := range among {
		if shares(c.X, b.Min.X, b.Max.X, size) && shares(c.Y, b.Min.Y, b.Max.Y, size) {
			list = append(list, c)
		}
	}
	return list
}

// rows are the cells of some Xs and Ys, by Y, of one Y by X.
func rows(xs, ys []int32) []api.Cell {
	var list []api.Cell
	for _, y := range ys {
		for _, x := range xs {
			list = append(list, cellOf(x, y))
		}
	}
	return list
}

func isBox(b api.Box) bool {
	return onLattice(b.Min) && onLattice(b.Max) && b.Min.X <= b.Max.X && b.Min.Y <= b.Max.Y
}

// P11.2: all boxes about the middle, those that are not right too.
func TestCover(t *testing.T) {
	points := grid(from(-4, 4)...)
	wrong := 0
	for size := int64(1); size < 7; size++ {
		among := rows(from(-6, 6), from(-6, 6))
		for _, low := range points {
			for _, high := range points {
				b := api.Box{Min: low, Max: high}
				var want []api.Cell
				if isBox(b) {
					want = covered(b, size, among)
				} else {
					wrong++
				}
				if got := slices.Collect(Cover(b, size)); !slices.Equal(got, want) {
					t.Errorf("Cover(%v, %d): %v, want %v", b, size, got, want)
				}
				if got := Count(b, size); got != int64(len(want)) {
					t.Errorf("Count(%v, %d): %d, want %d", b, size, got, len(want))
				}
			}
		}
	}
	if wrong == 0 {
		t.Error("no box was wrong")
	}
}

// around are the whole numbers near a quotient's floor, from two below that of a to two above that of b.
func around(a, b int32, size int64) []int32 {
	low := new(big.Int).Div(big.NewInt(int64(a)), big.NewInt(size)).Int64()
	high := new(big.Int).Div(big.NewInt(int64(b)), big.NewInt(size)).Int64()
	return from(int32(low-2), int32(high+2))
}

// fitting is a size of which no more than some cells lie between two points, in X and in Y.
func fitting(r *rand.Rand, p, q api.Point, most int64) int64 {
	wide := max(int64(p.X)-int64(q.X), int64(q.X)-int64(p.X), int64(p.Y)-int64(q.Y), int64(q.Y)-int64(p.Y))
	size := wide/(1+r.Int63n(most)) + r.Int63n(3)
	return min(max(size, 1), api.MaxCell)
}

// P11.2: boxes of any place and size.
func TestCoverAnywhere(t *testing.T) {
	r := rand.New(rand.NewSource(2))
	rim := grid(-edge, 1-edge, -1, 0, 1, edge-1, edge)
	for i := range 4000 {
		p, q := anywhere(r), anywhere(r)
		if i%4 == 0 {
			p, q = rim[r.Intn(len(rim))], rim[r.Intn(len(rim))]
		}
		b := boxOf(min(p.X, q.X), min(p.Y, q.Y), max(p.X, q.X), max(p.Y, q.Y))
		size := fitting(r, p, q, 6)
		want := covered(b, size, rows(around(b.Min.X, b.Max.X, size), around(b.Min.Y, b.Max.Y, size)))
		if got := slices.Collect(Cover(b, size)); !slices.Equal(got, want) {
			t.Errorf("Cover(%v, %d): %v, want %v", b, size, got, want)
		}
		if got := Count(b, size); got != int64(len(want)) {
			t.Errorf("Count(%v, %d): %d, want %d", b, size, got, len(want))
		}
	}
}

// P11.2
func TestCoverByHand(t *testing.T) {
	for _, x := range []struct {
		what string
		b    api.Box
		size int64
		want []api.Cell
	}{
		{"the chapter's", boxOf(0, 0, 10, 9), 10, cellsOf(0, 0, 1, 0)},
		{"one point", boxOf(-1, 10, -1, 10), 10, cellsOf(-1, 1)},
		{"a point at a cell's least corner", boxOf(20, -20, 20, -20), 10, cellsOf(2, -2)},
		{"one whole cell", boxOf(-10, 10, -1, 19), 10, cellsOf(-1, 1)},
		{"one cell and the next one's edge", boxOf(-10, 10, 0, 20), 10, cellsOf(-1, 1, 0, 1, -1, 2, 0, 2)},
		{"a row", boxOf(-11, 3, 15, 4), 10, cellsOf(-2, 0, -1, 0, 0, 0, 1, 0)},
		{"a column", boxOf(3, -11, 4, 15), 10, cellsOf(0, -2, 0, -1, 0, 0, 0, 1)},
		{"row by row", boxOf(-1, -1, 1, 1), 1, cellsOf(-1, -1, 0, -1, 1, -1, -1, 0, 0, 0, 1, 0, -1, 1, 0, 1, 1, 1)},
		{"the whole lattice, of the greatest size", boxOf(-edge, -edge, edge, edge), api.MaxCell, cellsOf(-1, -1, 0, -1, -1, 0, 0, 0)},
		{"the whole lattice, of its bound", boxOf(-edge, -edge, edge, edge), edge, cellsOf(-1, -1, 0, -1, 1, -1, -1, 0, 0, 0, 1, 0, -1, 1, 0, 1, 1, 1)},
		{"the lattice's greatest corner", boxOf(edge-1, edge, edge, edge), 1, cellsOf(edge-1, edge, edge, edge)},
		{"the lattice's least corner", boxOf(-edge, -edge, -edge, 1-edge), 1, cellsOf(-edge, -edge, -edge, 1-edge)},
	} {
		if got := slices.Collect(Cover(x.b, x.size)); !slices.Equal(got, x.want) {
			t.Errorf("%s: %v, want %v", x.what, got, x.want)
		}
		if got := Count(x.b, x.size); got != int64(len(x.want)) {
			t.Errorf("%s: %d cells, want %d", x.what, got, len(x.want))
		}
	}
}

// P11.2: more cells than could be gone through.
func TestCountOfMany(t *testing.T) {
	whole := boxOf(-edge, -edge, edge, edge)
	for _, x := range []struct {
		b          api.Box
		size, want int64
	}{
		{whole, 1, (1<<31 - 1) * (1<<31 - 1)},
		{whole, 2, 1 << 60},
		{whole, 3, 715827883 * 715827883},
		{whole, 10, 214748366 * 214748366},
		{whole, 1 << 15, 1 << 32},
		{whole, edge - 1, 16},
		{whole, edge, 9},
		{whole, edge + 1, 4},
		{whole, api.MaxCell - 1, 4},
		{whole, api.MaxCell, 4},
		{boxOf(-edge, 7, edge, 7), 1, 1<<31 - 1},
		{boxOf(7, -edge, 7, edge), 1, 1<<31 - 1},
		{boxOf(-edge, -edge, edge, 0), 1, (1<<31 - 1) << 30},
		{boxOf(0, 0, edge, edge), 1, 1 << 60},
		{boxOf(1, 1, edge, edge), 1, edge * edge},
	} {
		if got := Count(x.b, x.size); got != x.want {
			t.Errorf("Count(%v, %d): %d, want %d", x.b, x.size, got, x.want)
		}
	}
}

// P11.2, P0.1
func TestCoverOfNone(t *testing.T) {
	wrong := []api.Box{boxOf(1, 0, 0, 0), boxOf(0, 1, 0, 0), boxOf(1, 1, 0, 0), boxOf(edge, edge, -edge, -edge), boxOf(25, 0, 3, 100), boxOf(0, 25, 100, 3), boxOf(least, least, greatest, greatest), boxOf(greatest, greatest, least, least)}
	for _, p := range outside() {
		wrong = append(wrong, api.Box{Min: p, Max: p}, api.Box{Min: p}, api.Box{Max: p})
	}
	for _, b := range wrong {
		for _, size := range append(sizes(), noSizes()...) {
			if n := Count(b, size); n != 0 {
				t.Errorf("Count(%v, %d): %d", b, size, n)
			}
			nothing(t, "Cover of a wrong box", Cover(b, size))
		}
	}
	for _, size := range noSizes() {
		for _, b := range []api.Box{{}, boxOf(0, 0, 10, 9), boxOf(-edge, -edge, edge, edge)} {
			if n := Count(b, size); n != 0 {
				t.Errorf("Count(%v, %d): %d", b, size, n)
			}
			nothing(t, "Cover of no size", Cover(b, size))
		}
	}
}

// P11.6
func TestCoverAgainAndLeftEarly(t *testing.T) {
	for _, b := range []api.Box{boxOf(3, 3, 3, 3), boxOf(-1, 0, 12, 0), boxOf(0, -1, 0, 12), boxOf(-3, -3, 5, 4)} {
		wantIterator(t, "Cover", Cover(b, 3), slices.Collect(Cover(b, 3)))
	}
	nothing(t, "Cover of a wrong box", Cover(boxOf(1, 0, 0, 0), 3))
}

// P11.6: very many would follow.
func TestCoverLeftAtOnce(t *testing.T) {
	soon(t, "Cover", func() {
		for range 1000 {
			for _, x := range []struct {
				b    api.Box
				want []api.Cell
			}{
				{boxOf(-edge, -edge, edge, edge), cellsOf(-edge, -edge, 1-edge, -edge, 2-edge, -edge)},
				{boxOf(5, -edge, 5, edge), cellsOf(5, -edge, 5, 1-edge, 5, 2-edge)},
				{boxOf(5, -edge, 6, edge), cellsOf(5, -edge, 6, -edge, 5, 1-edge)},
				{boxOf(-edge, 5, edge, 5), cellsOf(-edge, 5, 1-edge, 5, 2-edge, 5)},
			} {
				for n := 1; n <= 3; n++ {
					if got := firstOf(n, Cover(x.b, 1)); !slices.Equal(got, x.want[:n]) {
						t.Errorf("Cover(%v, 1) begins with %v", x.b, got)
					}
				}
			}
		}
	})
}

// squared is P11.4 by the words, without a bound: the least and the greatest number of the lattice in a coordinate of a cell.
func squared(x int32, size int64) (low, high *big.Int, ok bool) {
	low, high = begins(int64(x), size), begins(int64(x)+1, size)
	high.Sub(high, big.NewInt(1))
	if low.Cmp(big.NewInt(-edge)) < 0 {
		low.SetInt64(-edge)
	}
	if high.Cmp(big.NewInt(edge)) > 0 {
		high.SetInt64(edge)
	}
	return low, high, low.Cmp(high) <= 0
}

// wantSquare fails, unless Square is what the words say.
func wantSquare(t *testing.T, c api.Cell, size int64) bool {
	t.Helper()
	left, right, okX := squared(c.X, size)
	low, high, okY := squared(c.Y, size)
	var want api.Box
	if okX && okY {
		want = boxOf(int32(left.Int64()), int32(low.Int64()), int32(right.Int64()), int32(high.Int64()))
	}
	if got, ok := Square(c, size); got != want || ok != (okX && okY) {
		t.Errorf("Square(%v, %d): %v, %v, want %v", c, size, got, ok, want)
	}
	return okX && okY
}

// P11.4: cells about the middle, at the lattice's ends, one beyond, and of anywhere.
func TestSquare(t *testing.T) {
	r := rand.New(rand.NewSource(3))
	var some, none int
	look := func(c api.Cell, size int64) {
		if wantSquare(t, c, size) {
			some++
		} else {
			none++
		}
	}
	for _, size := range sizes() {
		last := int32(edge / size)
		for _, p := range grid(least, least+1, -last-3, -last-2, -last-1, -last, -2, -1, 0, 1, 2, last-1, last, last+1, last+2, greatest-1, greatest) {
			look(api.Cell(p), size)
		}
	}
	for range 20000 {
		size := 1 + r.Int63n(api.MaxCell)>>r.Intn(31)
		look(api.Cell(spread32(r)), size)
		look(api.Cell(anywhere(r)), size)
		last := edge/size + 3
		look(cellOf(int32(r.Int63n(2*last)-last), int32(r.Int63n(2*last)-last)), size)
	}
	if some < 1000 || none < 1000 {
		t.Errorf("%d cells with points of the lattice, %d without", some, none)
	}
}

// P11.4
func TestSquareByHand(t *testing.T) {
	for _, x := range []struct {
		c    api.Cell
		size int64
		want api.Box
	}{
		{cellOf(0, 0), 4, boxOf(0, 0, 3, 3)},
		{cellOf(-1, 0), 2147483648, boxOf(-1073741823, 0, -1, 1073741823)},
		{cellOf(0, -1), 2147483648, boxOf(0, -1073741823, 1073741823, -1)},
		{cellOf(-2, 3), 4, boxOf(-8, 12, -5, 15)},
		{cellOf(-7, 9), 1, boxOf(-7, 9, -7, 9)},
		{cellOf(edge, -edge), 1, boxOf(edge, -edge, edge, -edge)},
		{cellOf(1<<29-1, -1<<29), 2, boxOf(edge-1, -edge, edge, -edge)},
		{cellOf(1, -1), edge, boxOf(edge, -edge, edge, -1)},
		{cellOf(1, -2), edge - 1, boxOf(edge-1, -edge, edge, -edge)},
		{cellOf(0, -1), edge + 1, boxOf(0, -edge, edge, -1)},
	} {
		if got, ok := Square(x.c, x.size); got != x.want || !ok {
			t.Errorf("Square(%v, %d): %v, %v, want %v", x.c, x.size, got, ok, x.want)
		}
	}
}

// P11.4, P0.1: beside the false no box is told.
func TestSquareOfNone(t *testing.T) {
	for _, x := range []struct {
		c    api.Cell
		size int64
	}{
		{cellOf(5, 0), 2147483648}, {cellOf(0, 5), 2147483648}, {cellOf(1, 0), api.MaxCell}, {cellOf(0, -2), api.MaxCell},
		{cellOf(edge+1, 0), 1}, {cellOf(0, edge+1), 1}, {cellOf(-edge-1, 0), 1}, {cellOf(0, -edge-1), 1}, {cellOf(1, 1), edge + 1}, {cellOf(-2, 0), edge + 1}, {cellOf(0, -2), edge},
		{cellOf(least, least), api.MaxCell}, {cellOf(greatest, greatest), api.MaxCell}, {cellOf(least, 0), 1}, {cellOf(0, greatest), 1}, {cellOf(0, least), 2}, {cellOf(greatest, 0), 3},
	} {
		if got, ok := Square(x.c, x.size); got != (api.Box{}) || ok {
			t.Errorf("Square(%v, %d): %v, %v", x.c, x.size, got, ok)
		}
	}
	for _, size := range noSizes() {
		for _, p := range grid(least, -1, 0, 1, 5, greatest) {
			if got, ok := Square(api.Cell(p), size); got != (api.Box{}) || ok {
				t.Errorf("Square(%v, %d): %v, %v", p, size, got, ok)
			}
		}
	}
}

// has tells whether a box covers a point.
func has(b api.Box, p api.Point) bool {
	return b.Min.X <= p.X && p.X <= b.Max.X && b.Min.Y <= p.Y && p.Y <= b.Max.Y
}

// P11.7: each point of the lattice is in the Square of its cell, and in no other one.
func TestSquaresOfPoints(t *testing.T) {
	r := rand.New(rand.NewSource(4))
	points := grid(-edge, 1-edge, -10, -1, 0, 1, 9, 10, edge-1, edge)
	for range 500 {
		points = append(points, anywhere(r))
	}
	for _, p := range points {
		for _, size := range sizes() {
			c, _ := Of(p, size)
			if b, ok := Square(c, size); !ok || !has(b, p) {
				t.Errorf("%v of the size %d: the cell %v, with %v, %v", p, size, c, b, ok)
			}
			for _, by := range grid(-1, 0, 1) {
				other := cellOf(c.X+by.X, c.Y+by.Y)
				if b, ok := Square(other, size); other != c && ok && has(b, p) {
					t.Errorf("%v of the size %d is in the Squares of %v and of %v", p, size, c, other)
				}
			}
		}
	}
}

// P11.7: Squares of unlike cells have no point in common.
func TestSquaresApart(t *testing.T) {
	for _, size := range []int64{1, 2, 3, 10, edge / 2, edge - 1, edge, edge + 1, api.MaxCell} {
		last := int32(edge / size)
		squares := map[api.Cell]api.Box{}
		for _, p := range grid(-last-2, -last-1, -last, 1-last, -1, 0, 1, last-1, last, last+1) {
			if b, ok := Square(api.Cell(p), size); ok {
				squares[api.Cell(p)] = b
			}
		}
		for c, a := range squares {
			for d, b := range squares {
				if c != d && max(a.Min.X, b.Min.X) <= min(a.Max.X, b.Max.X) && max(a.Min.Y, b.Min.Y) <= min(a.Max.Y, b.Max.Y) {
					t.Errorf("of the size %d: %v has %v, and %v has %v", size, c, a, d, b)
				}
			}
		}
	}
}

// P11.7: of each point of a box the cell is one of Cover's, each of these has one, and Count is how many there are.
func TestCoverOfPoints(t *testing.T) {
	r := rand.New(rand.NewSource(5))
	for range 500 {
		low := anywhere(r)
		low = at(min(low.X, edge-20), min(low.Y, edge-20))
		b := api.Box{Min: low, Max: at(low.X+int32(r.Intn(20)), low.Y+int32(r.Intn(20)))}
		size := 1 + r.Int63n(30)
		reached := map[api.Cell]int{}
		for _, x := range from(b.Min.X, b.Max.X) {
			for _, y := range from(b.Min.Y, b.Max.Y) {
				c, _ := Of(at(x, y), size)
				reached[c]++
			}
		}
		told := slices.Collect(Cover(b, size))
		for _, c := range told {
			if reached[c] == 0 {
				t.Errorf("Cover(%v, %d) tells %v, which has none of its points", b, size, c)
			}
		}
		if len(told) != len(reached) || Count(b, size) != int64(len(told)) {
			t.Errorf("Cover(%v, %d) tells %d cells, Count %d, want %d", b, size, len(told), Count(b, size), len(reached))
		}
	}
}

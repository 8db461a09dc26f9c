package inside

import (
	"math"
	"math/big"
	"math/rand"
	"slices"
	"strconv"
	"strings"

	"paddock/api"
	"paddock/point"
	"paddock/ring"
)

const (
	bound    = api.Bound
	least    = math.MinInt32
	greatest = math.MaxInt32
)

func at(x, y int32) api.Point { return api.Point{X: x, Y: y} }

// of makes points out of coordinates.
func of(c ...int32) []api.Point {
	var list []api.Point
	for i := 0; i+1 < len(c); i += 2 {
		list = append(list, at(c[i], c[i+1]))
	}
	return list
}

// grid are all points whose coordinates are among these.
func grid(coordinates ...int32) []api.Point {
	var list []api.Point
	for _, x := range coordinates {
		for _, y := range coordinates {
			list = append(list, at(x, y))
		}
	}
	return list
}

func text(v ...api.Point) string {
	var b strings.Builder
	for _, p := range v {
		b.WriteString("(" + strconv.Itoa(int(p.X)) + "," + strconv.Itoa(int(p.Y)) + ")")
	}
	return b.String()
}

func isRing(v []api.Point) bool {
	reason, _, _ := ring.Check(v)
	return reason == api.OK
}

// told is what the words say of a ring and a point: whether it is on a side, and how many sides rise and fall past it to its right.
type told struct {
	edge       bool
	rise, fall int
}

func (x told) covers() bool { return x.edge || (x.rise+x.fall)%2 == 1 }

// words goes by the chapter's words, side by side: where each one meets the height of p is reckoned as a fraction.
func words(v []api.Point, p api.Point) told {
	var x told
	for i, a := range v {
		b := v[(i+1)%len(v)]
		low, high := min(a.Y, b.Y), max(a.Y, b.Y)
		if p.Y < low || p.Y > high {
			continue
		}
		if low == high {
			x.edge = x.edge || min(a.X, b.X) <= p.X && p.X <= max(a.X, b.X)
			continue
		}
		place := meeting(a, b, p.Y).Cmp(big.NewRat(int64(p.X), 1))
		x.edge = x.edge || place == 0
		if place == 1 && a.Y <= p.Y && p.Y < b.Y {
			x.rise++
		}
		if place == 1 && b.Y <= p.Y && p.Y < a.Y {
			x.fall++
		}
	}
	return x
}

// meeting is the X at which a side that is not level meets a height.
func meeting(a, b api.Point, height int32) *big.Rat {
	x := big.NewRat(int64(b.X)-int64(a.X), int64(b.Y)-int64(a.Y))
	x.Mul(x, big.NewRat(int64(height)-int64(a.Y), 1))
	return x.Add(x, big.NewRat(int64(a.X), 1))
}

func picked(r *rand.Rand, n int, points []api.Point) []api.Point {
	var list []api.Point
	for range n {
		list = append(list, points[r.Intn(len(points))])
	}
	return list
}

// tuples are all lists of n of some points.
func tuples(n int, points []api.Point) [][]api.Point {
	list := [][]api.Point{nil}
	for range n {
		var longer [][]api.Point
		for _, v := range list {
			for _, p := range points {
				longer = append(longer, append(slices.Clone(v), p))
			}
		}
		list = longer
	}
	return list
}

// spread is a point from -reach to reach.
func spread(r *rand.Rand, reach int64) api.Point {
	return at(int32(r.Int63n(2*reach+1)-reach), int32(r.Int63n(2*reach+1)-reach))
}

// anywhere is a point with any coordinates of 32 bits.
func anywhere(r *rand.Rand) api.Point { return at(int32(r.Uint32()), int32(r.Uint32())) }

// star is a list of n points that goes round about the middle, mostly a ring: no two of them lie in one direction.
func star(r *rand.Rand, n int, reach int64) []api.Point {
	o := at(0, 0)
	var list []api.Point
	for range n {
		if p := spread(r, reach); p != o {
			list = append(list, p)
		}
	}
	slices.SortFunc(list, func(a, b api.Point) int { return point.Around(o, a, b) })
	return slices.CompactFunc(list, func(a, b api.Point) bool { return point.Around(o, a, b) == 0 })
}

// comb is a ring with so many teeth, one behind the other from the right to the left, that goes up to a height; the valleys between them are at the height 0.
func comb(teeth int, broad, high int32) []api.Point {
	list := []api.Point{at(0, -1), at(int32(2*teeth-1)*broad, -1)}
	for i := 2*teeth - 1; i >= 0; i-- {
		list = append(list, at(int32(i)*broad, int32(i%2)*high))
	}
	return list
}

// wall is a ring that goes up and down, with level sides at two heights.
func wall(towers int, broad, high int32) []api.Point {
	list := []api.Point{at(0, -high), at(int32(4*towers-1)*broad, -high)}
	for i := 4*towers - 1; i >= 0; i-- {
		list = append(list, at(int32(i)*broad, int32((i+1)/2%2)*high))
	}
	return list
}

func begun(v []api.Point, i int) []api.Point { return append(slices.Clone(v[i:]), v[:i]...) }

func turned(v []api.Point) []api.Point {
	w := slices.Clone(v)
	slices.Reverse(w)
	return w
}

// rings are simple ones: all of three and some of four vertices on a small grid, some with more, round the middle of any size, at the lattice's edge, with 64 vertices, with vertices in the midst of sides; the same in each run.
func rings() [][]api.Point {
	r := rand.New(rand.NewSource(1))
	list := tuples(3, grid(-1, 0, 1))
	for range 600 {
		list = append(list, picked(r, 4+r.Intn(4), grid(-2, -1, 0, 1, 2)), picked(r, 3+r.Intn(4), grid(-bound, 1-bound, 0, bound-1, bound)))
	}
	for range 60 {
		list = append(list, star(r, 3+r.Intn(8), 5), star(r, 3+r.Intn(30), bound>>r.Intn(28)), turned(star(r, 3+r.Intn(62), bound>>r.Intn(28))))
	}
	list = append(list, comb(31, 1, 1), comb(31, 1, bound), turned(comb(31, bound/64, bound)), comb(2, 3, 2), wall(15, 1, 1), wall(15, bound/64, bound), turned(wall(2, 2, 3)))
	list = append(list, of(-bound, -bound, bound, -bound, bound, bound, -bound, bound), of(-bound, -bound, bound, bound, bound, bound-1), of(0, -bound, bound, 0, 0, bound, -bound, 0))
	return slices.DeleteFunc(list, func(v []api.Point) bool { return !isRing(v) })
}

// lists are of all kinds: rings, rings told twice, lists of any number of points on small grids and anywhere, none and few.
func lists() [][]api.Point {
	r := rand.New(rand.NewSource(2))
	list := [][]api.Point{nil, {}, of(0, 0), of(least, greatest), of(0, 0, 0, 0), of(1, 1, 4, 7), of(least, least, greatest, greatest), of(least, 3, greatest, 3)}
	far := grid(least, -bound-1, -bound, 0, bound, bound+1, greatest)
	for range 500 {
		list = append(list, picked(r, r.Intn(9), grid(-1, 0, 1, 2)), picked(r, r.Intn(9), far))
		v := []api.Point{anywhere(r), anywhere(r), anywhere(r), anywhere(r), anywhere(r)}
		list = append(list, v[:r.Intn(6)])
	}
	for i, v := range rings() {
		switch i % 4 {
		case 0:
			list = append(list, v)
		case 1:
			list = append(list, append(slices.Clone(v), v...))
		case 2:
			list = append(list, append(slices.Clone(v), turned(v)...))
		case 3:
			list = append(list, append(slices.Clone(v), picked(r, 3, v)...))
		}
	}
	return list
}

// near are points to be asked for at a list: its own, beside them, at their heights to the left and to the right, in the midst of sides, and some others.
func near(r *rand.Rand, v []api.Point) []api.Point {
	list := []api.Point{at(0, 0), at(least, greatest), at(greatest, least), spread(r, 3), anywhere(r)}
	for i, a := range v {
		if i > 8 && r.Intn(4) > 0 {
			continue
		}
		b, c := v[(i+1)%len(v)], v[r.Intn(len(v))]
		// At the ends of 32 bits these go round, and are points like any others.
		list = append(list, a, at(a.X+1, a.Y), at(a.X-1, a.Y), at(a.X, a.Y+1), at(a.X, a.Y-1))
		list = append(list, at(least, a.Y), at(greatest, a.Y), at(c.X, a.Y), at(a.X, c.Y), middle(a, b), middle(a, c), middle(middle(a, b), middle(b, c)))
	}
	return list
}

// middle is a point half way, or next to it.
func middle(a, b api.Point) api.Point {
	return at(int32((int64(a.X)+int64(b.X))>>1), int32((int64(a.Y)+int64(b.Y))>>1))
}

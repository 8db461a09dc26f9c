package hull

import (
	"math"
	"math/big"
	"math/rand"
	"slices"
	"sync"

	"paddock/api"
)

const (
	edge     = api.Bound
	least    = math.MinInt32
	greatest = math.MaxInt32
)

func at(x, y int32) api.Point { return api.Point{X: x, Y: y} }

// of makes points out of coordinates.
func of(c ...int32) []api.Point {
	var list []api.Point
	for i := 0; i+1 < len(c); i += 2 {
		list = append(list, at(c[i], c[i+1]))
	}
	return list
}

// grid are all points whose coordinates are among these, rising.
func grid(coordinates ...int32) []api.Point {
	var list []api.Point
	for _, x := range coordinates {
		for _, y := range coordinates {
			list = append(list, at(x, y))
		}
	}
	return list
}

// before tells the order of points by the words: by X, then by Y.
func before(a, b api.Point) int {
	switch {
	case a == b:
		return 0
	case a.X < b.X, a.X == b.X && a.Y < b.Y:
		return -1
	}
	return 1
}

func begun(v []api.Point, i int) []api.Point { return append(slices.Clone(v[i:]), v[:i]...) }

func reversed(v []api.Point) []api.Point {
	w := slices.Clone(v)
	slices.Reverse(w)
	return w
}

func shuffled(r *rand.Rand, v []api.Point) []api.Point {
	w := slices.Clone(v)
	r.Shuffle(len(w), func(i, j int) { w[i], w[j] = w[j], w[i] })
	return w
}

// roomy is a list with room behind it that holds what is known, and what all of it is.
func roomy(v []api.Point) (list, all []api.Point) {
	all = append(slices.Clone(v), of(17, -4, 99, 3, -50, 1, least, greatest)...)
	return all[:len(v)], all
}

// spoil sets all of a list's memory, spare room included, to what stands nowhere else.
func spoil(v []api.Point) {
	v = v[:cap(v)]
	for i := range v {
		v[i] = at(-777777, 777777)
	}
}

// every tells all lists of n of some points, in all orders.
func every(n int, from []api.Point) [][]api.Point {
	lists := [][]api.Point{nil}
	for range n {
		var longer [][]api.Point
		for _, list := range lists {
			for _, p := range from {
				longer = append(longer, append(slices.Clone(list), p))
			}
		}
		lists = longer
	}
	return lists
}

// spread is a point of anywhere at all.
func spread(r *rand.Rand) api.Point { return at(int32(r.Uint32()), int32(r.Uint32())) }

// anywhere is one of any size.
func anywhere(r *rand.Rand) api.Point {
	p, by := spread(r), r.Intn(32)
	return at(p.X>>by, p.Y>>by)
}

// some are n points, each by a function.
func some(n int, next func() api.Point) []api.Point {
	var list []api.Point
	for range n {
		list = append(list, next())
	}
	return list
}

// lined makes points of one line, that may be level, upright or aslant.
func lined(r *rand.Rand) func() api.Point {
	o, way := anywhere(r), anywhere(r)
	o, way = at(o.X>>1, o.Y>>1), at(way.X>>5, way.Y>>5)
	switch r.Intn(4) {
	case 0:
		way.X = 0
	case 1:
		way.Y = 0
	}
	return func() api.Point {
		k := int32(r.Intn(9) - 4)
		return at(o.X+k*way.X, o.Y+k*way.Y)
	}
}

// onLine are points of one line, one of them beside it now and then.
func onLine(r *rand.Rand) []api.Point {
	list := some(1+r.Intn(8), lined(r))
	if r.Intn(3) == 0 {
		list[r.Intn(len(list))].Y++
	}
	return list
}

// parallel are points of two lines of one direction, so that the hull has two sides of one.
func parallel(r *rand.Rand) []api.Point {
	next, by := lined(r), anywhere(r)
	list := some(6, next)
	for _, p := range some(4, next) {
		list = append(list, at(p.X/2+by.X/2, p.Y/2+by.Y/2))
	}
	return list
}

// circle are all points whose squares of coordinates add up to n.
func circle(n int32) []api.Point {
	var list []api.Point
	for x := int32(0); x*x <= n; x++ {
		for y := int32(0); x*x+y*y <= n; y++ {
			if x*x+y*y == n {
				list = append(list, at(x, y), at(-x, y), at(x, -y), at(-x, -y))
			}
		}
	}
	slices.SortFunc(list, before)
	return slices.Compact(list)
}

// about are some points of a circle, moved.
func about(r *rand.Rand) []api.Point {
	all := circle([]int32{5, 25, 65, 325, 5525, 27625}[r.Intn(6)])
	o := at(int32(r.Intn(7)-3), int32(r.Intn(7)-3))
	return some(2+r.Intn(9), func() api.Point {
		p := all[r.Intn(len(all))]
		return at(o.X+p.X, o.Y+p.Y)
	})
}

// lists are points to be asked about: all small ones in all orders, all of the corners and middles of what an int32 holds, and others of one line, of two, of circles, of any place and size; the same in each run.
var lists = sync.OnceValue(func() [][]api.Point {
	var all [][]api.Point
	for n := range 5 {
		all = append(all, every(n, grid(-1, 0, 1))...)
	}
	for n := range 4 {
		all = append(all, every(n, grid(least, 0, greatest))...)
	}
	r := rand.New(rand.NewSource(10))
	rim := grid(least, least+1, -1, 0, greatest-1, greatest)
	for range 500 {
		n := 1 + r.Intn(12)
		all = append(all, onLine(r), parallel(r), about(r))
		all = append(all, some(n, func() api.Point { return spread(r) }), some(n, func() api.Point { return anywhere(r) }))
		all = append(all, some(n, func() api.Point { return rim[r.Intn(len(rim))] }))
		all = append(all, some(n, func() api.Point { return at(int32(r.Intn(7)), int32(r.Intn(7))) }))
	}
	return all
})

// parabola are points of which each is a corner, from (-n, n * n) to (n, n * n).
func parabola(n int32) []api.Point {
	var list []api.Point
	for x := -n; x <= n; x++ {
		list = append(list, at(x, x*x))
	}
	return list
}

// vec is a place or a way of whole numbers without a bound.
type vec struct{ x, y *big.Int }

func vecOf(p api.Point) vec { return vec{big.NewInt(int64(p.X)), big.NewInt(int64(p.Y))} }

func product(a, b *big.Int) *big.Int { return new(big.Int).Mul(a, b) }

func (v vec) minus(w vec) vec { return vec{new(big.Int).Sub(v.x, w.x), new(big.Int).Sub(v.y, w.y)} }

func (v vec) dot(w vec) *big.Int { return new(big.Int).Add(product(v.x, w.x), product(v.y, w.y)) }

func (v vec) cross(w vec) *big.Int { return new(big.Int).Sub(product(v.x, w.y), product(v.y, w.x)) }

// apart2 is the square of the distance of two points.
func apart2(a, b api.Point) *big.Int {
	way := vecOf(b).minus(vecOf(a))
	return way.dot(way)
}

// sideOf is where p lies from the way from a to b: 1 to the left, 0 on the segment between them, -1 anywhere else.
func sideOf(p, a, b api.Point) int {
	from, to, place := vecOf(a), vecOf(b), vecOf(p)
	side := to.minus(from).cross(place.minus(from)).Sign()
	if side == 0 && place.minus(from).dot(place.minus(to)).Sign() > 0 {
		return -1
	}
	return side
}

// wantedHull is P10.1 by its sides: those ways from one point to another that have all others to their left, or between their ends, followed from the least point on.
func wantedHull(v []api.Point) []api.Point {
	points := slices.Clone(v)
	slices.SortFunc(points, before)
	points = slices.Compact(points)
	if len(points) < 2 {
		return points
	}
	list := points[:1:1]
	for {
		for _, to := range points {
			if isSide(points, list[len(list)-1], to) {
				list = append(list, to)
				break
			}
		}
		if last := len(list) - 1; list[last] == points[0] {
			return list[:last]
		}
	}
}

func isSide(points []api.Point, a, b api.Point) bool {
	beside := func(p api.Point) bool { return sideOf(p, a, b) < 0 }
	return a != b && !slices.ContainsFunc(points, beside)
}

// covered is P10.3 by triangles, of a hull that is one.
func covered(h []api.Point, p api.Point) bool {
	switch len(h) {
	case 0:
		return false
	case 1, 2:
		return inTriangle(p, h[0], h[0], h[len(h)-1])
	}
	for i := 2; i < len(h); i++ {
		if inTriangle(p, h[0], h[i-1], h[i]) {
			return true
		}
	}
	return false
}

// inTriangle tells whether p is of a triangle, that may be a segment or a point: where the three parts that it cuts the triangle into are no more than all of it.
func inTriangle(p, a, b, c api.Point) bool {
	if a == b || b == c {
		return sideOf(p, a, c) == 0
	}
	size := func(a, b, c api.Point) *big.Int {
		twice := vecOf(b).minus(vecOf(a)).cross(vecOf(c).minus(vecOf(a)))
		return twice.Abs(twice)
	}
	parts := new(big.Int).Add(size(p, a, b), size(p, b, c))
	return parts.Add(parts, size(p, c, a)).Cmp(size(a, b, c)) == 0
}

// wantedFar is P10.4 by all pairs.
func wantedFar(v []api.Point) (int, int) {
	i, j := 0, 0
	most := big.NewInt(-1)
	for k, a := range v {
		for l := k + 1; l < len(v); l++ {
			if apart := apart2(a, v[l]); apart.Cmp(most) > 0 {
				i, j, most = k, l, apart
			}
		}
	}
	return i, j
}

// off2 is the square of the distance from p to the segment from a to b.
func off2(p, a, b api.Point) *big.Rat {
	from, to, place := vecOf(a), vecOf(b), vecOf(p)
	way := to.minus(from)
	if a == b || way.dot(place.minus(from)).Sign() < 0 {
		return new(big.Rat).SetInt(apart2(p, a))
	}
	if way.dot(place.minus(to)).Sign() > 0 {
		return new(big.Rat).SetInt(apart2(p, b))
	}
	area := way.cross(place.minus(from))
	return new(big.Rat).SetFrac(product(area, area), way.dot(way))
}

// furthestOff is the place of the point between i and j that is the furthest off the segment between these, of several the first, and the square of how far; -1, if none stands between.
func furthestOff(v []api.Point, i, j int) (int, *big.Rat) {
	place, most := -1, new(big.Rat)
	for k := i + 1; k < j; k++ {
		if off := off2(v[k], v[i], v[j]); place < 0 || off.Cmp(most) > 0 {
			place, most = k, off
		}
	}
	return place, most
}

// wantedThin is P10.5 by its own words, which call themselves.
func wantedThin(v []api.Point, tol int64) []api.Point {
	if len(v) < 3 {
		return v
	}
	square := new(big.Rat).SetInt(product(big.NewInt(tol), big.NewInt(tol)))
	list := v[:1:1]
	var thin func(i, j int)
	thin = func(i, j int) {
		if k, off := furthestOff(v, i, j); k > 0 && off.Cmp(square) > 0 {
			thin(i, k)
			list = append(list, v[k])
			thin(k, j)
		}
	}
	thin(0, len(v)-1)
	return append(list, v[len(v)-1])
}

// reaching is the least whole number whose square is at least v.
func reaching(v *big.Rat) int64 {
	up := new(big.Int).Add(v.Num(), new(big.Int).Sub(v.Denom(), big.NewInt(1)))
	up.Quo(up, v.Denom())
	root := new(big.Int).Sqrt(up)
	if product(root, root).Cmp(up) < 0 {
		root.Add(root, big.NewInt(1))
	}
	return root.Int64()
}

// ofLattice is the point of the lattice that is nearest to p.
func ofLattice(p api.Point) api.Point {
	return at(max(min(p.X, edge), -edge), max(min(p.Y, edge), -edge))
}

// walk is a line of small steps, that stays of the lattice.
func walk(r *rand.Rand) []api.Point {
	p, step := ofLattice(anywhere(r)), 1<<r.Intn(20)
	return some(3+r.Intn(30), func() api.Point {
		p = ofLattice(at(p.X+int32(r.Intn(2*step+1)-step), p.Y+int32(r.Intn(2*step+1)-step)))
		return p
	})
}

// lines are lines of the lattice: all small ones, all between the lattice's corners and middles, and others of small steps, of few places, of any place and size, that come back to where they began; the same in each run.
var lines = sync.OnceValue(func() [][]api.Point {
	var all [][]api.Point
	for n := range 5 {
		all = append(all, every(n, grid(-1, 0, 1))...)
	}
	all = append(all, every(3, grid(-edge, 0, edge))...)
	r := rand.New(rand.NewSource(20))
	rim := grid(-edge, 1-edge, -1, 0, edge-1, edge)
	for range 300 {
		n := 1 + r.Intn(12)
		all = append(all, walk(r), some(n, func() api.Point { return ofLattice(anywhere(r)) }))
		all = append(all, some(n, func() api.Point { return rim[r.Intn(len(rim))] }))
		all = append(all, some(2*n, func() api.Point { return at(int32(r.Intn(7)), int32(r.Intn(5))) }))
		flat := some(n, lined(r))
		for i, p := range flat {
			flat[i] = ofLattice(p)
		}
		all = append(all, flat, append(walk(r), flat...))
		back := walk(r)
		all = append(all, append(back, back[0]))
	}
	return all
})

// zigzag is a line whose stretches are each cut behind their first point.
func zigzag(n int) []api.Point {
	list := of(0, 0)
	for len(list) < n {
		x := int32(len(list))
		list = append(list, at(x, x%2*2-1))
	}
	return list
}

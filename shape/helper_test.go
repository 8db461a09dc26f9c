package shape

import (
	"math"
	"math/big"
	"math/rand"
	"slices"
	"strconv"
	"strings"
	"sync"

	"paddock/api"
	"paddock/point"
)

const (
	bound    = api.Bound
	least    = math.MinInt32
	greatest = math.MaxInt32
)

func at(x, y int32) api.Point { return api.Point{X: x, Y: y} }

// of makes points out of coordinates.
func of(c ...int32) []api.Point {
	var list []api.Point
	for i := 0; i+1 < len(c); i += 2 {
		list = append(list, at(c[i], c[i+1]))
	}
	return list
}

func box(x1, y1, x2, y2 int32) api.Box { return api.Box{Min: at(x1, y1), Max: at(x2, y2)} }

func polyOf(verts []api.Point, holes ...[]api.Point) api.Shape {
	return api.Shape{Kind: api.Poly, Verts: verts, Holes: holes}
}

func discOf(x, y, size int32) api.Shape {
	return api.Shape{Kind: api.Disc, Verts: of(x, y), Size: size}
}

func rectOf(x1, y1, x2, y2 int32) api.Shape {
	return api.Shape{Kind: api.Rect, Verts: of(x1, y1, x2, y2)}
}

func corridorOf(size int32, c ...int32) api.Shape {
	return api.Shape{Kind: api.Corridor, Verts: of(c...), Size: size}
}

// square is a ring round from the one corner.
func square(x, y, side int32) []api.Point {
	return of(x, y, x+side, y, x+side, y+side, x, y+side)
}

// example is the chapter's S.
func example() api.Shape { return polyOf(square(0, 0, 9), square(3, 3, 3)) }

func number(b bool) int {
	if b {
		return 1
	}
	return 0
}

func points(v ...api.Point) string {
	var b strings.Builder
	for _, p := range v {
		b.WriteString("(" + strconv.Itoa(int(p.X)) + "," + strconv.Itoa(int(p.Y)) + ")")
	}
	return b.String()
}

func text(s api.Shape) string {
	t := "kind " + strconv.Itoa(int(s.Kind)) + " size " + strconv.Itoa(int(s.Size)) + " " + points(s.Verts...)
	for _, h := range s.Holes {
		t += " without " + points(h...)
	}
	return t
}

// cloned is a shape of the same kind with lists of its own.
func cloned(s api.Shape) api.Shape {
	s.Verts, s.Holes = slices.Clone(s.Verts), slices.Clone(s.Holes)
	for i, h := range s.Holes {
		s.Holes[i] = slices.Clone(h)
	}
	return s
}

func begun(v []api.Point, i int) []api.Point { return append(slices.Clone(v[i:]), v[:i]...) }

func turned(v []api.Point) []api.Point {
	w := slices.Clone(v)
	slices.Reverse(w)
	return w
}

func moved(v []api.Point, by api.Point) []api.Point {
	w := slices.Clone(v)
	for i := range w {
		w[i].X += by.X
		w[i].Y += by.Y
	}
	return w
}

// vec is a place or a way of fractions without a bound.
type vec struct{ x, y *big.Rat }

func vecOf(p api.Point) vec { return vec{whole(p.X), whole(p.Y)} }

func whole(v int32) *big.Rat { return new(big.Rat).SetInt64(int64(v)) }

func sum(a, b *big.Rat) *big.Rat        { return new(big.Rat).Add(a, b) }
func difference(a, b *big.Rat) *big.Rat { return new(big.Rat).Sub(a, b) }
func product(a, b *big.Rat) *big.Rat    { return new(big.Rat).Mul(a, b) }

func (v vec) minus(w vec) vec { return vec{difference(v.x, w.x), difference(v.y, w.y)} }

func (v vec) dot(w vec) *big.Rat { return sum(product(v.x, w.x), product(v.y, w.y)) }

func (v vec) cross(w vec) *big.Rat { return difference(product(v.x, w.y), product(v.y, w.x)) }

// between is the place t along the way from v to w.
func between(v, w vec, t *big.Rat) vec {
	way := w.minus(v)
	return vec{sum(v.x, product(t, way.x)), sum(v.y, product(t, way.y))}
}

// ends goes through the sides of a closed list.
func ends(v []api.Point, tell func(a, b vec)) {
	for i, a := range v {
		tell(vecOf(a), vecOf(v[(i+1)%len(v)]))
	}
}

// onSide tells whether a place is on the segment from a to b.
func onSide(x, a, b vec) bool {
	return a.minus(x).cross(b.minus(x)).Sign() == 0 && a.minus(x).dot(b.minus(x)).Sign() <= 0
}

// standsTo tells whether a place is on a ring's sides, and whether it is in the ring: whether the sides go round it.
func standsTo(v []api.Point, x vec) (edge, in bool) {
	round := 0
	ends(v, func(a, b vec) {
		edge = edge || onSide(x, a, b)
		side := b.minus(a).cross(x.minus(a)).Sign()
		switch {
		case a.y.Cmp(x.y) <= 0 && b.y.Cmp(x.y) > 0 && side > 0:
			round++
		case a.y.Cmp(x.y) > 0 && b.y.Cmp(x.y) <= 0 && side < 0:
			round--
		}
	})
	return edge, !edge && round != 0
}

// distance2 is the square of the distance from x to the segment from a to b.
func distance2(x, a, b vec) *big.Rat {
	way := b.minus(a)
	nearest := a
	if along := way.dot(x.minus(a)); along.Sign() > 0 {
		t := new(big.Rat).Quo(along, way.dot(way))
		nearest = b
		if t.Cmp(big.NewRat(1, 1)) < 0 {
			nearest = between(a, b, t)
		}
	}
	return nearest.minus(x).dot(nearest.minus(x))
}

// apart2 is the square of the distance of two segments: that of the middle from all differences of a place of the one and a place of the other, which fill a parallelogram.
func apart2(a, b, c, d vec) *big.Rat {
	corners := [4]vec{a.minus(c), b.minus(c), b.minus(d), a.minus(d)}
	middle := vecOf(at(0, 0))
	var nearest *big.Rat
	left, right := 0, 0
	for i, from := range corners {
		to := corners[(i+1)%4]
		switch to.minus(from).cross(middle.minus(from)).Sign() {
		case 1:
			left++
		case -1:
			right++
		}
		if v := distance2(middle, from, to); nearest == nil || v.Cmp(nearest) < 0 {
			nearest = v
		}
	}
	if left == 4 || right == 4 {
		return new(big.Rat)
	}
	return nearest
}

// reaches tells whether the square of a distance is no more than that of a size.
func reaches(distance *big.Rat, size int32) bool {
	return distance.Cmp(product(whole(size), whole(size))) <= 0
}

// has tells whether a place of the plane is in the set of a right shape, by the words of the chapter's table.
func has(s api.Shape, x vec) bool {
	switch s.Kind {
	case api.Poly:
		edge, in := standsTo(s.Verts, x)
		for _, h := range s.Holes {
			_, cut := standsTo(h, x)
			in, edge = in && !cut, edge && !cut
		}
		return edge || in
	case api.Disc:
		return reaches(distance2(x, vecOf(s.Verts[0]), vecOf(s.Verts[0])), s.Size)
	case api.Rect:
		low, high := vecOf(s.Verts[0]), vecOf(s.Verts[1])
		return low.x.Cmp(x.x) <= 0 && x.x.Cmp(high.x) <= 0 && low.y.Cmp(x.y) <= 0 && x.y.Cmp(high.y) <= 0
	}
	for i := range len(s.Verts) - 1 {
		if reaches(distance2(x, vecOf(s.Verts[i]), vecOf(s.Verts[i+1])), s.Size) {
			return true
		}
	}
	return false
}

// hasOf tells whether the set of a right shape has a point of the segment from p to q.
func hasOf(s api.Shape, p, q api.Point) bool {
	from, to := vecOf(p), vecOf(q)
	switch s.Kind {
	case api.Disc:
		return reaches(distance2(vecOf(s.Verts[0]), from, to), s.Size)
	case api.Corridor:
		for i := range len(s.Verts) - 1 {
			if reaches(apart2(vecOf(s.Verts[i]), vecOf(s.Verts[i+1]), from, to), s.Size) {
				return true
			}
		}
		return false
	}
	for _, t := range places(s, from, to) {
		if has(s, between(from, to, t)) {
			return true
		}
	}
	return false
}

// places are where along a segment something can change, as it meets the lines of a shape's sides there, and between each two of these.
func places(s api.Shape, from, to vec) []*big.Rat {
	list := []*big.Rat{new(big.Rat), big.NewRat(1, 1)}
	line := func(a, b vec) {
		first, last := b.minus(a).cross(from.minus(a)), b.minus(a).cross(to.minus(a))
		if first.Cmp(last) != 0 {
			list = append(list, new(big.Rat).Quo(first, difference(first, last)))
		}
		// Of a side of one point, and of one along the segment, its ends.
		if way := to.minus(from); way.dot(way).Sign() != 0 {
			list = append(list, new(big.Rat).Quo(way.dot(a.minus(from)), way.dot(way)))
		}
	}
	if s.Kind == api.Rect {
		low, high := s.Verts[0], s.Verts[1]
		ends([]api.Point{low, at(high.X, low.Y), high, at(low.X, high.Y)}, line)
	} else {
		ends(s.Verts, line)
	}
	for _, h := range s.Holes {
		ends(h, line)
	}
	list = slices.DeleteFunc(list, func(t *big.Rat) bool { return t.Sign() < 0 || t.Cmp(big.NewRat(1, 1)) > 0 })
	slices.SortFunc(list, func(a, b *big.Rat) int { return a.Cmp(b) })
	list = slices.CompactFunc(list, func(a, b *big.Rat) bool { return a.Cmp(b) == 0 })
	for i := range len(list) - 1 {
		list = append(list, product(sum(list[i], list[i+1]), big.NewRat(1, 2)))
	}
	return list
}

// spread is a point from -reach to reach.
func spread(r *rand.Rand, reach int64) api.Point {
	return at(int32(r.Int63n(2*reach+1)-reach), int32(r.Int63n(2*reach+1)-reach))
}

// star is a list of n points that goes round about the middle, mostly a ring: no two of them lie in one direction.
func star(r *rand.Rand, n int, reach int64) []api.Point {
	o := at(0, 0)
	var list []api.Point
	for range n {
		if p := spread(r, reach); p != o {
			list = append(list, p)
		}
	}
	slices.SortFunc(list, func(a, b api.Point) int { return point.Around(o, a, b) })
	return slices.CompactFunc(list, func(a, b api.Point) bool { return point.Around(o, a, b) == 0 })
}

// comb is a ring with so many teeth that go up to a height.
func comb(teeth int, broad, high int32) []api.Point {
	list := []api.Point{at(0, -1), at(int32(2*teeth-1)*broad, -1)}
	for i := 2*teeth - 1; i >= 0; i-- {
		list = append(list, at(int32(i)*broad, int32(i%2)*high))
	}
	return list
}

// middle is a point half way, or next to it.
func middle(a, b api.Point) api.Point {
	return at(int32((int64(a.X)+int64(b.X))>>1), int32((int64(a.Y)+int64(b.Y))>>1))
}

// isRight tells whether a shape may be, by a second writing of P9.1.
func isRight(s api.Shape) bool { return wanted(s) == api.OK }

// stars are polygons round the middle, with up to 8 holes that lie here and there; of all sizes.
func stars(r *rand.Rand) []api.Shape {
	var list []api.Shape
	for range 1000 {
		reach := int64(bound) >> r.Intn(27)
		s := polyOf(star(r, 3+r.Intn(12), reach))
		for range r.Intn(5) {
			s.Holes = append(s.Holes, moved(star(r, 3+r.Intn(4), reach/8), spread(r, reach/4)))
		}
		list = append(list, s)
	}
	return slices.DeleteFunc(list, func(s api.Shape) bool { return !isRight(s) })
}

// polys are polygons of all kinds: without holes, with eight, with holes in the bays of other holes, as great as the lattice, one step from its edge, of one small triangle.
func polys() []api.Shape {
	all := square(-bound, -bound, 2*bound)
	eight := polyOf(square(0, 0, 30))
	far := polyOf(all)
	for i := range int32(8) {
		eight.Holes = append(eight.Holes, square(1+3*i, 1+2*i, 2))
		far.Holes = append(far.Holes, turned(square(1-bound+i*(bound/4), 1-bound, bound/4-1)))
	}
	return []api.Shape{
		example(), eight, far, polyOf(all), polyOf(all, square(1-bound, 1-bound, 2*bound-2)),
		polyOf(of(0, 0, 1, 0, 0, 1)), polyOf(of(-bound, -bound, bound, bound, bound, bound-1)), polyOf(of(0, -bound, bound, 0, 0, bound, -bound, 0), of(0, 1, 1, 0, 0, -1, -1, 0)),
		polyOf(comb(3, 2, 5)), polyOf(turned(comb(31, bound/64, bound))), polyOf(comb(4, 20, 40), of(30, -0, 25, 2, 20, 7)),
		polyOf(square(0, 0, 12), of(2, 2, 10, 2, 10, 10, 8, 10, 8, 4, 4, 4, 4, 10, 2, 10), square(5, 5, 2), square(5, 8, 2)),
		polyOf(of(0, 0, 5, 0, 10, 0, 10, 10, 5, 10, 5, 9, 0, 9), of(1, 1, 4, 1, 9, 1, 9, 2, 1, 2), of(6, 5, 9, 3, 9, 9)),
		polyOf(of(0, 0, 6, 0, 6, 6, 4, 6, 4, 2, 2, 2, 2, 6, 0, 6)),
	}
}

// others are discs, boxes and corridors: of a point, of a line, of a size of 0 and of the greatest, at the lattice's edge, and of all sizes.
func others(r *rand.Rand) []api.Shape {
	list := []api.Shape{
		discOf(0, 0, 5), discOf(0, 0, 0), discOf(bound, -bound, 0), discOf(-bound, -bound, bound), discOf(bound, 0, bound), discOf(0, 0, bound), discOf(3, -2, 1),
		rectOf(2, 0, 3, 9), rectOf(2, 0, 2, 0), rectOf(2, -3, 2, 9), rectOf(-2, 4, 9, 4), rectOf(-bound, -bound, bound, bound), rectOf(-bound, -bound, -bound, -bound), rectOf(bound, -bound, bound, bound), rectOf(-bound, bound, bound, bound), rectOf(-bound, 1-bound, bound-1, bound),
		corridorOf(2, 0, 0, 10, 0), corridorOf(0, 0, 0, 3, 4), corridorOf(0, 0, 0, 4, 0, 0, 0), corridorOf(1, 0, 0, 4, 4, 8, 0, 4, -4, 0, 0), corridorOf(bound, -bound, -bound, bound, bound), corridorOf(0, -bound, bound, bound, 1-bound), corridorOf(bound, bound, bound, bound, bound-1),
		corridorOf(3, 0, 0, 9, 0, 9, 9, 0, 9, 0, 3, 6, 3, 6, 6, 3, 6, 3, 5, 20, 5, 20, 20, -5, 20, -5, -5, 30, -5, 30, 30, -9, 30),
	}
	for range 150 {
		reach := int64(bound) >> r.Intn(29)
		a, b := spread(r, reach), spread(r, reach)
		size := int32(r.Int63n(min(reach+2, bound)))
		corner, _ := point.Bounds(a, b)
		list = append(list, discOf(a.X, a.Y, size), rectOf(corner.Min.X, corner.Min.Y, corner.Max.X, corner.Max.Y))
		c := api.Shape{Kind: api.Corridor, Size: size >> r.Intn(5)}
		for range 2 + r.Intn(3) {
			c.Verts = append(c.Verts, spread(r, reach))
		}
		list = append(list, c)
	}
	return slices.DeleteFunc(list, func(s api.Shape) bool { return !isRight(s) })
}

// right are shapes of all kinds that may be; the same in each run.
var right = sync.OnceValue(func() []api.Shape {
	r := rand.New(rand.NewSource(1))
	return slices.Concat(polys(), others(r), stars(r))
})

// near are points to be asked for at a right shape, all of the lattice: its own, beside them, between them, as far away as its size, round it, and some others.
func near(r *rand.Rand, s api.Shape) []api.Point {
	list := of(0, 0, bound, bound, -bound, bound, 0, -bound)
	for _, v := range append([][]api.Point{s.Verts}, s.Holes...) {
		for i, a := range v {
			b, c := v[(i+1)%len(v)], s.Verts[r.Intn(len(s.Verts))]
			list = append(list, a, at(a.X+1, a.Y), at(a.X, a.Y-1), at(a.X-1, a.Y+1), middle(a, b), middle(a, c), middle(middle(a, b), middle(b, c)), at(a.X, c.Y), at(b.X, a.Y))
			// What is cut off where 32 bits end is not of the lattice either way.
			list = append(list, at(a.X+s.Size, a.Y), at(a.X, a.Y-s.Size), at(a.X-s.Size-1, a.Y), at(a.X, a.Y+s.Size+1), at(a.X+s.Size/5*3, a.Y+s.Size/5*4), at(a.X-s.Size/5*4, a.Y-s.Size/5*3))
		}
	}
	list = append(list, spread(r, 3), spread(r, bound), spread(r, bound>>r.Intn(28)))
	return slices.DeleteFunc(list, func(p api.Point) bool { return !point.In(p) })
}

// beyond are points that are not of the lattice, at its edge and at the ends of 32 bits.
func beyond() []api.Point {
	return of(bound+1, 0, -bound-1, 0, 0, bound+1, 0, -bound-1, bound+1, bound+1, least, 0, greatest, 0, 0, least, 0, greatest, least, least, greatest, greatest, least, greatest)
}

func pick[T any](r *rand.Rand, list []T) T { return list[r.Intn(len(list))] }

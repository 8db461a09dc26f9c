package seg

import (
	"math"
	"math/big"
	"math/rand"

	"paddock/api"
	"paddock/point"
)

const edge = api.Bound

func at(x, y int32) api.Point { return api.Point{X: x, Y: y} }

func frac(num, den int64) api.Frac { return api.Frac{Num: num, Den: den} }

// grid are all points whose coordinates are among these.
func grid(coordinates ...int32) []api.Point {
	var list []api.Point
	for _, x := range coordinates {
		for _, y := range coordinates {
			list = append(list, at(x, y))
		}
	}
	return list
}

// outside are points that are not of the lattice: one beyond its edge, and at the ends of int32.
func outside() []api.Point {
	var list []api.Point
	for _, p := range grid(math.MinInt32, -edge-1, -edge, 0, edge, edge+1, math.MaxInt32) {
		if !point.In(p) {
			list = append(list, p)
		}
	}
	return list
}

// quad is the ends of two segments: the first one's, the second one's.
type quad [4]api.Point

// quads are two segments each: all about the middle, all of the lattice's corners, middles of its sides and middle, and others near its edge, of one line, that touch, of any place and size; the same in each run.
func quads() []quad {
	list := append(all(grid(-1, 0, 1)), all(grid(-edge, 0, edge))...)
	r := rand.New(rand.NewSource(1))
	rim := grid(-edge, 1-edge, -1, 0, 2, edge-1, edge)
	for range 3000 {
		list = append(list, picked(r, rim), picked(r, grid(-3, -1, 0, 2, 5)), lined(r), touching(r))
		list = append(list, quad{anywhere(r), anywhere(r), anywhere(r), anywhere(r)})
		list = append(list, quad{spread(r), spread(r), spread(r), spread(r)})
	}
	return list
}

// all are all quads of some points.
func all(v []api.Point) []quad {
	var list []quad
	for _, a := range v {
		for _, b := range v {
			for _, c := range v {
				for _, d := range v {
					list = append(list, quad{a, b, c, d})
				}
			}
		}
	}
	return list
}

func picked(r *rand.Rand, v []api.Point) quad {
	return quad{v[r.Intn(len(v))], v[r.Intn(len(v))], v[r.Intn(len(v))], v[r.Intn(len(v))]}
}

// spread is a point of anywhere in the lattice.
func spread(r *rand.Rand) api.Point { return at(r.Int31n(2*edge+1)-edge, r.Int31n(2*edge+1)-edge) }

// anywhere is one of any size.
func anywhere(r *rand.Rand) api.Point {
	p := spread(r)
	return at(p.X>>r.Intn(31), p.Y>>r.Intn(31))
}

// onLine makes points of one line, all of the lattice and some steps away from its edge.
func onLine(r *rand.Rand) func() api.Point {
	reach := int32(edge-8) >> r.Intn(28)
	dx, dy := r.Int31n(2*(reach/8)+1)-reach/8, r.Int31n(2*(reach/8)+1)-reach/8
	o := at(r.Int31n(reach/4+1), -r.Int31n(reach/4+1))
	return func() api.Point {
		k := int32(r.Intn(9) - 4)
		return at(o.X+k*dx, o.Y+k*dy)
	}
}

// lined is four points of one line, or one of them one step off it.
func lined(r *rand.Rand) quad {
	step := onLine(r)
	q := quad{step(), step(), step(), step()}
	if r.Intn(2) == 0 {
		q[r.Intn(4)].X += int32(r.Intn(3) - 1)
	}
	return q
}

// touching is a segment and another that begins at a point of its line, or beside that.
func touching(r *rand.Rand) quad {
	step := onLine(r)
	q := quad{step(), step(), step(), spread(r)}
	if r.Intn(4) == 0 {
		q[2].Y += int32(r.Intn(3) - 1)
	}
	if r.Intn(2) == 0 {
		q = quad{q[3], q[2], q[1], q[0]}
	}
	return q
}

// vec is a place or a way of fractions without a bound.
type vec struct{ x, y *big.Rat }

func vecOf(p api.Point) vec {
	return vec{new(big.Rat).SetInt64(int64(p.X)), new(big.Rat).SetInt64(int64(p.Y))}
}

func sum(a, b *big.Rat) *big.Rat        { return new(big.Rat).Add(a, b) }
func difference(a, b *big.Rat) *big.Rat { return new(big.Rat).Sub(a, b) }
func product(a, b *big.Rat) *big.Rat    { return new(big.Rat).Mul(a, b) }

func (v vec) minus(w vec) vec { return vec{difference(v.x, w.x), difference(v.y, w.y)} }

func (v vec) is(w vec) bool { return v.x.Cmp(w.x) == 0 && v.y.Cmp(w.y) == 0 }

func (v vec) dot(w vec) *big.Rat { return sum(product(v.x, w.x), product(v.y, w.y)) }

func (v vec) cross(w vec) *big.Rat { return difference(product(v.x, w.y), product(v.y, w.x)) }

// between is the place t along the way from v to w.
func between(v, w vec, t *big.Rat) vec {
	way := w.minus(v)
	return vec{sum(v.x, product(t, way.x)), sum(v.y, product(t, way.y))}
}

// toFrac is a fraction in lowest terms, which a Rat always is.
func toFrac(t *big.Rat) api.Frac { return frac(t.Num().Int64(), t.Denom().Int64()) }

// conditions are what makes a place one of the segment from c to d: that none of these is below 0.
func conditions(c, d vec) []func(x vec) *big.Rat {
	if c.is(d) {
		return []func(x vec) *big.Rat{
			func(x vec) *big.Rat { return difference(x.x, c.x) },
			func(x vec) *big.Rat { return difference(c.x, x.x) },
			func(x vec) *big.Rat { return difference(x.y, c.y) },
			func(x vec) *big.Rat { return difference(c.y, x.y) },
		}
	}
	return []func(x vec) *big.Rat{
		func(x vec) *big.Rat { return d.minus(c).cross(x.minus(c)) },
		func(x vec) *big.Rat { return c.minus(d).cross(x.minus(c)) },
		func(x vec) *big.Rat { return d.minus(c).dot(x.minus(c)) },
		func(x vec) *big.Rat { return c.minus(d).dot(x.minus(d)) },
	}
}

// clipped is from where to where along the way from a to b the places of the segment from c to d are: what no condition cuts off.
func clipped(a, b, c, d vec) (from, to *big.Rat, ok bool) {
	from, to = new(big.Rat), big.NewRat(1, 1)
	for _, condition := range conditions(c, d) {
		first, last := condition(a), condition(b)
		if first.Cmp(last) == 0 {
			if first.Sign() < 0 {
				return nil, nil, false
			}
			continue
		}
		zero := new(big.Rat).Quo(first, difference(first, last))
		if first.Cmp(last) < 0 && zero.Cmp(from) > 0 {
			from = zero
		}
		if first.Cmp(last) > 0 && zero.Cmp(to) < 0 {
			to = zero
		}
	}
	if a.is(b) {
		to = from
	}
	return from, to, from.Cmp(to) <= 0
}

// wanted is P5.1 by clipping.
func (q quad) wanted() api.Meeting {
	a, b, c, d := vecOf(q[0]), vecOf(q[1]), vecOf(q[2]), vecOf(q[3])
	from, to, ok := clipped(a, b, c, d)
	if !ok {
		return api.Meeting{}
	}
	m := api.Meeting{Kind: api.MeetAlong, From: toFrac(from), To: toFrac(to)}
	if from.Cmp(to) == 0 {
		x := between(a, b, from)
		m.Kind, m.Inner = api.MeetPoint, !x.is(a) && !x.is(b) && !x.is(c) && !x.is(d)
	}
	return m
}

// distance2 is the square of the distance from x to the segment from a to b.
func distance2(x, a, b vec) *big.Rat {
	way := b.minus(a)
	nearest := a
	if along := way.dot(x.minus(a)); along.Sign() > 0 {
		t := new(big.Rat).Quo(along, way.dot(way))
		nearest = b
		if t.Cmp(big.NewRat(1, 1)) < 0 {
			nearest = between(a, b, t)
		}
	}
	return nearest.minus(x).dot(nearest.minus(x))
}

// distance2 is the square of the distance of the two segments: that of the middle from all differences of a place of the one and a place of the other, which fill a parallelogram.
func (q quad) distance2() *big.Rat {
	a, b, c, d := vecOf(q[0]), vecOf(q[1]), vecOf(q[2]), vecOf(q[3])
	corners := [4]vec{a.minus(c), b.minus(c), b.minus(d), a.minus(d)}
	middle := vecOf(at(0, 0))
	var least *big.Rat
	left, right := 0, 0
	for i, from := range corners {
		to := corners[(i+1)%4]
		switch to.minus(from).cross(middle.minus(from)).Sign() {
		case 1:
			left++
		case -1:
			right++
		}
		if v := distance2(middle, from, to); least == nil || v.Cmp(least) < 0 {
			least = v
		}
	}
	if left == 4 || right == 4 {
		return new(big.Rat)
	}
	return least
}

// reaching is the least whole number whose square is at least v.
func reaching(v *big.Rat) int64 {
	up := new(big.Int).Add(v.Num(), new(big.Int).Sub(v.Denom(), big.NewInt(1)))
	up.Quo(up, v.Denom())
	root := new(big.Int).Sqrt(up)
	if new(big.Int).Mul(root, root).Cmp(up) < 0 {
		root.Add(root, big.NewInt(1))
	}
	return root.Int64()
}

// radii are those to be tried where r just reaches.
func radii(r int64) []int64 {
	return []int64{math.MinInt64, -1, 0, 1, r - 1, r, r + 1, api.FarRadius - 1, api.FarRadius, api.FarRadius + 1, 1 << 32, 1 << 62, math.MaxInt64}
}

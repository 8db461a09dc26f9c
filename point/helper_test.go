package point

import (
	"math"
	"math/big"
	"math/rand"

	"paddock/api"
)

const (
	edge     = api.Bound
	least    = math.MinInt32
	greatest = math.MaxInt32
)

func at(x, y int32) api.Point { return api.Point{X: x, Y: y} }

func boxOf(x, y, z, w int32) api.Box { return api.Box{Min: at(x, y), Max: at(z, w)} }

// grid are all points whose coordinates are among these.
func grid(coordinates ...int32) []api.Point {
	var list []api.Point
	for _, x := range coordinates {
		for _, y := range coordinates {
			list = append(list, at(x, y))
		}
	}
	return list
}

// edges are the points at the ends of the lattice, one beyond it, and at the ends of int32.
func edges() []api.Point { return grid(least, -edge-1, -1, 0, 1, edge, greatest) }

// lattice are points of the lattice, its corners among them.
func lattice() []api.Point { return grid(-edge, 1-edge, -1, 0, 2, edge-1, edge) }

// triple is three points that are looked at together.
type triple struct{ o, a, b api.Point }

// triples are three each: all of the edges, all of some points of the lattice, all about the middle, others of anywhere, and of one line or beside one; the same in each run.
func triples() []triple {
	var list []triple
	for _, v := range [][]api.Point{edges(), lattice(), grid(-1, 0, 1)} {
		for _, o := range v {
			for _, a := range v {
				for _, b := range v {
					list = append(list, triple{o, a, b})
				}
			}
		}
	}
	r := rand.New(rand.NewSource(1))
	for range 20000 {
		list = append(list, triple{anywhere(r), anywhere(r), anywhere(r)}, lined(r))
	}
	return list
}

// anywhere is a point of any size.
func anywhere(r *rand.Rand) api.Point {
	return at(int32(r.Uint32())>>r.Intn(32), int32(r.Uint32())>>r.Intn(32))
}

// lined is three points of one line, or one of them one step off it.
func lined(r *rand.Rand) triple {
	reach := int32(greatest) >> r.Intn(30)
	dx, dy := r.Int31n(2*(reach/8)+1)-reach/8, r.Int31n(2*(reach/8)+1)-reach/8
	o := at(r.Int31n(reach/4+1), -r.Int31n(reach/4+1))
	step := func() api.Point {
		k := int32(r.Intn(9) - 4)
		return at(o.X+k*dx, o.Y+k*dy)
	}
	x := triple{o, step(), step()}
	if r.Intn(2) == 0 {
		x.b.X += int32(r.Intn(3) - 1)
		x.b.Y += int32(r.Intn(3) - 1)
	}
	return x
}

// number is v without a bound.
func number(v int32) *big.Int { return big.NewInt(int64(v)) }

// difference is p - o, in X and in Y.
func difference(o, p api.Point) (x, y *big.Int) {
	return new(big.Int).Sub(number(p.X), number(o.X)), new(big.Int).Sub(number(p.Y), number(o.Y))
}

// bigCross is ax * by - ay * bx.
func bigCross(o, a, b api.Point) *big.Int {
	ax, ay := difference(o, a)
	bx, by := difference(o, b)
	return new(big.Int).Sub(new(big.Int).Mul(ax, by), new(big.Int).Mul(ay, bx))
}

// bigDot is ax * bx + ay * by.
func bigDot(o, a, b api.Point) *big.Int {
	ax, ay := difference(o, a)
	bx, by := difference(o, b)
	return new(big.Int).Add(new(big.Int).Mul(ax, bx), new(big.Int).Mul(ay, by))
}

// round is v modulo 2^64, as the int64 that it is.
func round(v *big.Int) int64 {
	whole := new(big.Int).Lsh(big.NewInt(1), 64)
	return int64(new(big.Int).Mod(v, whole).Uint64())
}

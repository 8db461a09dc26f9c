package turn

import (
	"math"
	"math/big"
	"math/rand"

	"paddock/api"
)

const (
	bound    = api.Bound
	least    = math.MinInt32
	greatest = math.MaxInt32
	tiny     = math.SmallestNonzeroFloat64
	huge     = math.MaxFloat64
)

var (
	inf    = math.Inf(1)
	nan    = math.NaN()
	nought = math.Copysign(0, -1)
)

func at(x, y int32) api.Point { return api.Point{X: x, Y: y} }

func similar(a, b complex128) api.Similar { return api.Similar{A: a, B: b} }

// like tells whether two numbers are equal or both NaN: that is the same bits, but for a nought's sign and for which NaN it is.
func like(a, b float64) bool { return a == b || math.IsNaN(a) && math.IsNaN(b) }

func likeBoth(a, b complex128) bool {
	return like(real(a), real(b)) && like(imag(a), imag(b))
}

func likeAll(m, n api.Similar) bool { return likeBoth(m.A, n.A) && likeBoth(m.B, n.B) }

func isFinite(x float64) bool { return !math.IsNaN(x) && !math.IsInf(x, 0) }

func areFinite(z complex128) bool { return isFinite(real(z)) && isFinite(imag(z)) }

// exact is x without any rounding.
func exact(x float64) *big.Rat { return new(big.Rat).SetFloat64(x) }

// nearest is an operation of finite numbers that is reckoned exactly and rounded once: nothing can be joined with it.
func nearest(a, b float64, reckon func(z, x, y *big.Rat) *big.Rat) float64 {
	x, _ := reckon(new(big.Rat), exact(a), exact(b)).Float64()
	return x
}

func plus(a, b float64) float64 {
	if !isFinite(a) || !isFinite(b) {
		return a + b
	}
	return nearest(a, b, (*big.Rat).Add)
}

func minus(a, b float64) float64 { return plus(a, -b) }

func mul(a, b float64) float64 {
	if !isFinite(a) || !isFinite(b) {
		return a * b
	}
	return nearest(a, b, (*big.Rat).Mul)
}

func quo(a, b float64) float64 {
	if !isFinite(a) || !isFinite(b) || b == 0 {
		return a / b
	}
	return nearest(a, b, (*big.Rat).Quo)
}

// root is the square root, by more digits than a float64 has.
func root(x float64) float64 {
	if !isFinite(x) || x <= 0 {
		return math.Sqrt(x)
	}
	y, _ := new(big.Float).SetPrec(53).Sqrt(new(big.Float).SetFloat64(x)).Float64()
	return y
}

// The chapter's words, step by step.

func wordPlus(a, b complex128) complex128 {
	return complex(plus(real(a), real(b)), plus(imag(a), imag(b)))
}

func wordMinus(a, b complex128) complex128 {
	return complex(minus(real(a), real(b)), minus(imag(a), imag(b)))
}

func wordTimes(a, b complex128) complex128 {
	p, q, u, v := real(a), imag(a), real(b), imag(b)
	return complex(minus(mul(p, u), mul(q, v)), plus(mul(p, v), mul(q, u)))
}

func wordSquare(a complex128) float64 {
	return plus(mul(real(a), real(a)), mul(imag(a), imag(a)))
}

func wordBy(a, b complex128) complex128 {
	p, q, u, v := real(a), imag(a), real(b), imag(b)
	d := wordSquare(b)
	return complex(quo(plus(mul(p, u), mul(q, v)), d), quo(minus(mul(q, u), mul(p, v)), d))
}

// joins tells whether a · b + c · d would show that one of its products was joined with the sum.
func joins(a, b, c, d float64) bool {
	apart := plus(mul(a, b), mul(c, d))
	return !like(math.FMA(a, b, mul(c, d)), apart) || !like(math.FMA(c, d, mul(a, b)), apart)
}

// joinsTimes tells whether both parts of a · b would show it.
func joinsTimes(a, b complex128) bool {
	p, q, u, v := real(a), imag(a), real(b), imag(b)
	return joins(p, u, -q, v) && joins(p, v, q, u)
}

// joinsBy tells whether both parts of a by b would show it, above the line.
func joinsBy(a, b complex128) bool {
	p, q, u, v := real(a), imag(a), real(b), imag(b)
	d := wordSquare(b)
	// It has to be seen behind the division too.
	seen := func(a, b, c, d, by float64) bool {
		apart := quo(plus(mul(a, b), mul(c, d)), by)
		return !like(quo(math.FMA(a, b, mul(c, d)), by), apart) || !like(quo(math.FMA(c, d, mul(a, b)), by), apart)
	}
	return seen(p, u, q, v, d) && seen(q, u, -p, v, d)
}

// edges are parts at which something changes: noughts, what is not finite, the greatest and the least, squares that are 0 or infinite or next to it.
func edges() []float64 {
	list := []float64{0, nought, inf, -inf, nan}
	for _, x := range []float64{
		1, 0.5, 2, 3, bound, 1 << 53, huge, tiny, 0x1p-1022, 0x1p511, math.Nextafter(0x1p512, 0), 0x1p512, 1e200, 1e-200, 1e-160,
		0x1p-537, 0x1.6a09e667f3bccp-538, 0x1.6a09e667f3bcdp-538, 0x1p-538, 1e300, 1e-300,
	} {
		list = append(list, x, -x)
	}
	return list
}

// part is a part of a number: an edge, any bits at all, or one of a middling size with all its digits.
func part(r *rand.Rand, edges []float64) float64 {
	switch r.Intn(5) {
	case 0:
		return edges[r.Intn(len(edges))]
	case 1:
		return math.Float64frombits(r.Uint64())
	case 2:
		return math.Ldexp(r.Float64()-0.5, r.Intn(80)-40)
	case 3:
		return float64(r.Intn(9)-4) / 2
	}
	return r.Float64() - 0.5
}

// numbers hands out complex numbers, the same ones in each run: of all kinds, and in each second turn such as need all digits and are not far apart, so that nothing hides how they are rounded.
func numbers(seed int64) func(turn int) complex128 {
	r, parts := rand.New(rand.NewSource(seed)), edges()
	return func(turn int) complex128 {
		if turn%2 == 1 {
			return complex(r.Float64()-0.5, r.Float64()-0.5)
		}
		return complex(part(r, parts), part(r, parts))
	}
}

// ends are points at the ends of the lattice, one beyond it, at the ends of 32 bits, and about the middle.
func ends() []api.Point {
	coordinates := []int32{least, -bound - 1, -bound, -1, 0, 1, bound, bound + 1, greatest}
	var list []api.Point
	for _, x := range coordinates {
		for _, y := range coordinates {
			list = append(list, at(x, y))
		}
	}
	return list
}

// anywhere is a point of any size within 32 bits.
func anywhere(r *rand.Rand) api.Point {
	return at(int32(r.Uint32())>>r.Intn(32), int32(r.Uint32())>>r.Intn(32))
}

// pointed is a point as a complex number.
func pointed(p api.Point) complex128 { return complex(float64(p.X), float64(p.Y)) }

// gone is q - p as whole numbers, and so as a complex number.
func gone(p, q api.Point) complex128 {
	x := new(big.Int).Sub(big.NewInt(int64(q.X)), big.NewInt(int64(p.X)))
	y := new(big.Int).Sub(big.NewInt(int64(q.Y)), big.NewInt(int64(p.Y)))
	return complex(float64(x.Int64()), float64(y.Int64()))
}

// quads are four points each: of the ends, of any size, and far apart; the same in each run. Some have a point twice.
func quads() [][4]api.Point {
	r, list := rand.New(rand.NewSource(3)), ends()
	var all [][4]api.Point
	for range 8000 {
		var a, b, c [4]api.Point
		for i := range a {
			a[i], b[i], c[i] = list[r.Intn(len(list))], anywhere(r), at(int32(r.Uint32()), int32(r.Uint32()))
		}
		all = append(all, a, b, c)
	}
	for range 300 {
		p, q, r := anywhere(r), anywhere(r), anywhere(r)
		all = append(all, [4]api.Point{p, p, q, r}, [4]api.Point{p, q, r, r}, [4]api.Point{p, p, p, p}, [4]api.Point{p, q, p, q}, [4]api.Point{p, q, q, p})
	}
	return all
}

package real

import (
	"math"
	"math/big"
	"math/rand"
	"testing"

	"paddock/api"
)

var (
	inf    = math.Inf(1)
	nan    = math.NaN()
	nought = math.Copysign(0, -1)
)

// alike tells whether two numbers are equal or both NaN.
func alike(a, b float64) bool { return a == b || math.IsNaN(a) && math.IsNaN(b) }

// sameBits tells whether two numbers are alike, noughts with their signs.
func sameBits(a, b float64) bool {
	return math.Float64bits(a) == math.Float64bits(b) || math.IsNaN(a) && math.IsNaN(b)
}

// finite tells whether x is neither infinite nor NaN.
func finite(x float64) bool { return !math.IsInf(x, 0) && !math.IsNaN(x) }

// exact is x without any rounding.
func exact(x float64) *big.Rat { return new(big.Rat).SetFloat64(x) }

// beside are x and its two neighbours, and the same with the other sign.
func beside(x float64) []float64 {
	var list []float64
	for _, v := range []float64{x, math.Nextafter(x, inf), math.Nextafter(x, -inf)} {
		list = append(list, v, -v)
	}
	return list
}

// reals are numbers of all kinds: edges with their neighbours, and others that are the same in each run.
func reals() []float64 {
	list := []float64{0, nought, inf, -inf, nan, math.MaxFloat64, -math.MaxFloat64}
	for _, x := range []float64{
		math.SmallestNonzeroFloat64, 0x1p-1022, 0.1, 0.5, 1, 1.5, 2.5, 2.75, 3.5, 7,
		api.Bound - 1, api.Bound - 0.5, api.Bound, api.Bound + 0.5, api.Bound + 1, 1e10, 1e16, 1e21, 1e300,
		1 << 31, 1 << 32, 1<<51 + 0.5, 1<<52 - 0.5, 1 << 52, 1<<52 + 1, 1 << 53, 1<<53 + 2, 0x1p62, 0x1p63, 0x1p64,
		math.SmallestNonzeroFloat32, math.SmallestNonzeroFloat32 / 2, 0x1p-126, math.MaxFloat32, 0x1.ffffffp127, 0x1p128,
	} {
		list = append(list, beside(x)...)
	}
	r := rand.New(rand.NewSource(1))
	for range 200 {
		list = append(list, math.Float64frombits(r.Uint64()))
		list = append(list, math.Ldexp(r.Float64()-0.5, r.Intn(70)))
		list = append(list, float64(r.Int63n(1<<31)-1<<30)/4)
	}
	return list
}

// wantBeside fails, unless an answer beside an error is zero.
func wantBeside[T comparable](t *testing.T, got T, e api.Errno, what any) {
	t.Helper()
	var none T
	if e != api.OK && got != none {
		t.Errorf("%v: %v beside the error %v", what, got, e)
	}
}

package real

import (
	"math"
	"math/big"
	"math/rand"
	"slices"
	"testing"
)

// rounded is a number of 53 bits, whose every operation is rounded by itself, on any machine.
func rounded(x float64) *big.Float { return new(big.Float).SetPrec(53).SetFloat64(x) }

func plus(a, b *big.Float) *big.Float  { return new(big.Float).SetPrec(53).Add(a, b) }
func minus(a, b *big.Float) *big.Float { return new(big.Float).SetPrec(53).Sub(a, b) }
func times(a, b *big.Float) *big.Float { return new(big.Float).SetPrec(53).Mul(a, b) }
func size(a *big.Float) *big.Float     { return new(big.Float).Abs(a) }

// sumOf is what P2.4 says of Sum, for numbers of middling size.
func sumOf(xs []float64) float64 {
	s, c := rounded(0), rounded(0)
	for _, v := range xs {
		x := rounded(v)
		t := plus(s, x)
		if size(s).Cmp(size(x)) >= 0 {
			c = plus(c, plus(minus(s, t), x))
		} else {
			c = plus(c, plus(minus(x, t), s))
		}
		s = t
	}
	f, _ := plus(s, c).Float64()
	return f
}

// lists are numbers to be added up, the same in each run.
func lists() [][]float64 {
	r := rand.New(rand.NewSource(2))
	out := [][]float64{nil, {0.1}, {0.1, 0.2, -0.3}, {1e16, 1, -1e16}, {1, 1e16, -1e16}, {1e16, -1e16, 1}, {1, 1e100, 1, -1e100}}
	for n := range 300 {
		var xs []float64
		for range n % 23 {
			x := math.Ldexp(r.Float64()-0.5, r.Intn(120)-40)
			xs = append(xs, x)
			if r.Intn(3) == 0 {
				xs = append(xs, -x)
			}
		}
		r.Shuffle(len(xs), func(i, j int) { xs[i], xs[j] = xs[j], xs[i] })
		out = append(out, xs)
	}
	return out
}

// P2.4
func TestSum(t *testing.T) {
	for _, xs := range lists() {
		if got, want := Sum(xs...), sumOf(xs); got != want {
			t.Errorf("Sum(%v): %v, want %v", xs, got, want)
		}
	}
}

// P2.4
func TestSumByHand(t *testing.T) {
	for _, c := range []struct {
		xs   []float64
		want float64
	}{
		{nil, 0},
		{[]float64{}, 0},
		{[]float64{7}, 7},
		{[]float64{1e16, 1, -1e16}, 1},
		{[]float64{1, 1e100, 1, -1e100}, 2},
		{[]float64{1e100, 1, -1e100, 1}, 2},
		{[]float64{0x1p53, 1, 1}, 0x1p53 + 2},
		{[]float64{nought}, 0},
		{[]float64{inf, 1}, nan},
		{[]float64{inf}, nan},
		{[]float64{-inf, 1}, nan},
		{[]float64{inf, -inf}, nan},
		{[]float64{1, nan, 2}, nan},
		{[]float64{nan}, nan},
		// What comes to be infinite on the way has lost what it lost.
		{[]float64{math.MaxFloat64, math.MaxFloat64}, nan},
		{[]float64{math.MaxFloat64, -math.MaxFloat64}, 0},
	} {
		if got := Sum(c.xs...); !alike(got, c.want) {
			t.Errorf("Sum(%v): %v, want %v", c.xs, got, c.want)
		}
	}
}

// P2.4
func TestMean(t *testing.T) {
	for _, xs := range lists() {
		if len(xs) == 0 {
			continue
		}
		want, _ := new(big.Float).SetPrec(53).Quo(rounded(sumOf(xs)), rounded(float64(len(xs)))).Float64()
		if got := Mean(xs...); got != want {
			t.Errorf("Mean(%v): %v, want %v", xs, got, want)
		}
	}
	for _, c := range []struct {
		xs   []float64
		want float64
	}{
		{nil, nan}, {[]float64{}, nan}, {[]float64{1, 2}, 1.5}, {[]float64{7}, 7}, {[]float64{1, 1, -5}, -1}, {[]float64{1e16, 1, -1e16, 1}, 0.5},
		{[]float64{0, nought}, 0}, {[]float64{inf, 1}, nan}, {[]float64{nan}, nan}, {[]float64{math.MaxFloat64, math.MaxFloat64}, nan},
	} {
		if got := Mean(c.xs...); !alike(got, c.want) {
			t.Errorf("Mean(%v): %v, want %v", c.xs, got, c.want)
		}
	}
}

// P2.4, P0.1: what is handed in is not changed, spare room included.
func TestSumLeavesItsList(t *testing.T) {
	room := []float64{3, 1e16, -1, 4, 5}
	before := slices.Clone(room)
	Sum(room[:3]...)
	Mean(room[:3]...)
	if !slices.Equal(room, before) {
		t.Errorf("%v became %v", before, room)
	}
}

// P2.5
func TestLength(t *testing.T) {
	ways := []int64{0, 1, -1, 3, -4, 1 << 30, 1<<31 - 2, 2 - 1<<31, 1<<53 + 1, 1 << 62, math.MaxInt64, math.MinInt64, math.MinInt64 + 1, 94906267, 134217729}
	r := rand.New(rand.NewSource(3))
	for range 60 {
		ways = append(ways, int64(r.Uint64())>>r.Intn(64))
	}
	joined := 0
	for _, dx := range ways {
		for _, dy := range ways {
			a, b := rounded(float64(dx)), rounded(float64(dy))
			square := plus(times(a, a), times(b, b))
			want, _ := new(big.Float).SetPrec(53).Sqrt(square).Float64()
			if got := Length(dx, dy); got != want {
				t.Errorf("Length(%d, %d): %v, want %v", dx, dy, got, want)
			}
			x, y := float64(dx), float64(dy)
			if math.Sqrt(math.FMA(x, x, float64(y*y))) != want {
				joined++
			}
		}
	}
	if joined == 0 {
		t.Error("none of these would show that two operations were joined")
	}
}

// P2.5
func TestLengthByHand(t *testing.T) {
	for _, c := range []struct {
		dx, dy int64
		want   float64
	}{
		{3, -4, 5}, {-3, 4, 5}, {0, 0, 0}, {0, -7, 7}, {1, 1, math.Sqrt2},
		{math.MinInt64, 0, 0x1p63}, {0, math.MaxInt64, 0x1p63}, {3 << 61, -1 << 63, 5 * 0x1p61},
	} {
		if got := Length(c.dx, c.dy); got != c.want {
			t.Errorf("Length(%d, %d): %v, want %v", c.dx, c.dy, got, c.want)
		}
	}
}

// P2.10
func TestSumOfWholeNumbers(t *testing.T) {
	r := rand.New(rand.NewSource(4))
	for range 2000 {
		var xs []float64
		left, total := int64(1)<<53, int64(0)
		for range r.Intn(9) {
			n := r.Int63n(left + 1)
			n >>= r.Intn(2) * r.Intn(50)
			left -= n
			if r.Intn(2) == 0 {
				n = -n
			}
			total += n
			xs = append(xs, float64(n))
		}
		// What is left is used up, so that their sizes come to 2^53.
		xs, total = append(xs, float64(left)), total+left
		for range 4 {
			r.Shuffle(len(xs), func(i, j int) { xs[i], xs[j] = xs[j], xs[i] })
			if got := Sum(xs...); got != float64(total) {
				t.Errorf("Sum(%v): %v, want %d", xs, got, total)
			}
		}
	}
}

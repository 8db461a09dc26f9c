package track

import (
	"fmt"
	"math"
	"math/big"
	"math/rand"
	"testing"

	"paddock/api"
)

// exact is x without any rounding.
func exact(x float64) *big.Rat { return new(big.Rat).SetFloat64(x) }

func isFinite(x float64) bool { return !math.IsNaN(x) && !math.IsInf(x, 0) }

// nearest is an operation that is reckoned exactly, and rounded once: nothing can be joined with it. What is not finite goes by the machine's own.
func nearest(a, b float64, reckon func(z, x, y *big.Rat) *big.Rat, own float64) float64 {
	if !isFinite(a) || !isFinite(b) {
		return own
	}
	x, _ := reckon(new(big.Rat), exact(a), exact(b)).Float64()
	return x
}

func plus(a, b float64) float64  { return nearest(a, b, (*big.Rat).Add, a+b) }
func minus(a, b float64) float64 { return nearest(a, b, (*big.Rat).Sub, a-b) }
func mul(a, b float64) float64   { return nearest(a, b, (*big.Rat).Mul, a*b) }
func quo(a, b float64) float64   { return nearest(a, b, (*big.Rat).Quo, a/b) }

// square is the whole number dx · dx + dy · dy of two points.
func square(p, q api.Point) *big.Int {
	dx, dy := big.NewInt(int64(q.X)-int64(p.X)), big.NewInt(int64(q.Y)-int64(p.Y))
	return dx.Add(dx.Mul(dx, dx), dy.Mul(dy, dy))
}

// root is the square root, reckoned by more digits than a real number has, and rounded once.
func root(x float64) float64 {
	if x == 0 {
		return 0
	}
	y, _ := new(big.Float).SetPrec(300).Sqrt(new(big.Float).SetFloat64(x)).Float64()
	return y
}

// wordDistance is the distance by the chapter's words.
func wordDistance(p, q api.Point) float64 {
	x, _ := new(big.Rat).SetInt(square(p, q)).Float64()
	return root(x)
}

// parts are w and d of P18.1.
func parts(old float64, p, q api.Point, t0, t uint32) (w, d float64) {
	n := float64(int64(t) - int64(t0))
	return quo(n, n+8), minus(quo(wordDistance(p, q), n), old)
}

// wordSpeed is Speed by the chapter's words.
func wordSpeed(old float64, p, q api.Point, t0, t uint32) float64 {
	if t <= t0 {
		return old
	}
	w, d := parts(old, p, q, t0, t)
	return plus(old, mul(w, d))
}

// joined tells whether a Speed would show that its product is joined with its sum.
func joined(old float64, p, q api.Point, t0, t uint32) bool {
	w, d := parts(old, p, q, t0, t)
	return !like(math.FMA(w, d, old), plus(old, mul(w, d)))
}

// olds are speeds of all kinds.
func olds() []float64 {
	return []float64{0, nought, nan, inf, -inf, tiny, -tiny, 0x1p-1022, huge, -huge, 1, -1, 0.1, 0.625, 1e-9, 1e9, 6074000998.5, 1e300, math.Nextafter(0.625, 0), math.Nextafter(0.625, 1)}
}

// moves are ways from a point to another of all lengths.
func moves() [][2]api.Point {
	return [][2]api.Point{
		{at(0, 0), at(0, 0)}, {at(7, -7), at(7, -7)}, {at(0, 0), at(3, 4)}, {at(0, 0), at(1, 1)}, {at(1, 0), at(0, 0)}, {at(-5, 9), at(12, -1)},
		{at(api.Bound, api.Bound), at(-api.Bound, -api.Bound)}, {at(least, least), at(greatest, greatest)}, {at(greatest, least), at(least, greatest)},
		{at(least, 0), at(greatest, 0)}, {at(0, greatest), at(0, least)}, {at(least, least), at(least, least)}, {at(greatest, greatest), at(greatest, greatest)},
		{at(least, least), at(greatest, greatest-1)}, {at(least, least), at(0, 0)}, {at(0, 0), at(greatest, greatest)}, {at(least+1, 5), at(greatest, 6)},
	}
}

// times are those of two updates, the second one later.
func times() [][2]uint32 {
	return [][2]uint32{
		{0, 1}, {0, 2}, {0, 7}, {0, 8}, {0, 9}, {5, 13}, {1, 2}, {3, 1003}, {0, 1 << 31}, {1<<31 - 1, 1 << 31}, {1 << 31, 1<<31 + 1}, {1<<31 - 1, topmost},
		{0, topmost}, {1, topmost}, {7, topmost}, {8, topmost}, {9, topmost}, {topmost - 1, topmost}, {0, topmost - 1}, {0, topmost - 7}, {0, topmost - 8},
	}
}

// The chapter's table.
func TestExamplesOfSpeed(t *testing.T) {
	for _, c := range []struct {
		old   float64
		p, q  api.Point
		t0, t uint32
		want  float64
	}{
		{0, at(0, 0), at(3, 4), 0, 8, 0.3125},
		{2, at(0, 0), at(0, 0), 5, 13, 1},
		{2, at(0, 0), at(9, 9), 5, 5, 2},
	} {
		wantFloat(t, fmt.Sprint(c), Speed(c.old, c.p, c.q, c.t0, c.t), c.want)
	}
	if got := Speed(0, at(0, 0), at(3, 4), 0, topmost); math.Abs(got-1.16e-9) > 0.01e-9 {
		t.Errorf("nearly 1.16e-09: %v", got)
	}
	wantFloat(t, "(0,0) (3,4) (3,0)", Way([]api.Point{at(0, 0), at(3, 4), at(3, 0)}), 9)
}

// P18.1: with t not above t0 the old speed is told as it is, whatever it is, and whatever the points are.
func TestSpeedOfNoTime(t *testing.T) {
	for _, u := range [][2]uint32{{0, 0}, {1, 0}, {1, 1}, {8, 1}, {topmost, 0}, {topmost, 1}, {topmost, topmost - 1}, {topmost, topmost}, {1 << 31, 1<<31 - 1}, {1 << 31, 1 << 31}} {
		for _, m := range moves() {
			for _, old := range olds() {
				what := fmt.Sprint("Speed of ", old, m, u)
				got := Speed(old, m[0], m[1], u[0], u[1])
				wantFloat(t, what, got, old)
				if !math.IsNaN(old) && math.Signbit(got) != math.Signbit(old) {
					t.Errorf("%s: another sign", what)
				}
			}
		}
	}
}

// P18.1: at, just above and just below t0, wherever it is.
func TestSpeedAtTheTime(t *testing.T) {
	for _, t0 := range []uint32{0, 1, 2, 1000, 1<<31 - 1, 1 << 31, topmost - 1, topmost} {
		if t0 > 0 {
			wantFloat(t, fmt.Sprint("below ", t0), Speed(3, at(0, 0), at(9, 12), t0, t0-1), 3)
		}
		wantFloat(t, fmt.Sprint("at ", t0), Speed(3, at(0, 0), at(9, 12), t0, t0), 3)
		if t0 < topmost {
			wantFloat(t, fmt.Sprint("above ", t0), Speed(3, at(0, 0), at(9, 12), t0, t0+1), wordSpeed(3, at(0, 0), at(9, 12), 0, 1))
		}
	}
}

// P18.1: speeds of all kinds, points at the ends of 32 bits, times at theirs, each with each.
func TestSpeed(t *testing.T) {
	for _, u := range times() {
		for _, m := range moves() {
			for _, old := range olds() {
				want := wordSpeed(old, m[0], m[1], u[0], u[1])
				wantFloat(t, fmt.Sprint("Speed of ", old, m, u), Speed(old, m[0], m[1], u[0], u[1]), want)
				wantFloat(t, fmt.Sprint("Speed of ", old, m, u, " back"), Speed(old, m[1], m[0], u[0], u[1]), want)
			}
		}
	}
}

// P18.1: what no number has come out of does not become one, and from the infinities none comes out.
func TestSpeedOfNoNumber(t *testing.T) {
	for _, old := range []float64{nan, inf, -inf} {
		for _, u := range times() {
			if got := Speed(old, at(0, 0), at(3, 4), u[0], u[1]); !math.IsNaN(got) {
				t.Errorf("Speed of %v: %v", old, got)
			}
		}
	}
}

// anyPoint is a point near 0, or any at all.
func anyPoint(random *rand.Rand) api.Point {
	shift := random.Intn(32)
	return at(int32(random.Uint32())>>shift, int32(random.Uint32())>>shift)
}

// anyOld is a speed from 0 on of any size that points can make.
func anyOld(random *rand.Rand) float64 {
	return random.Float64() * math.Ldexp(1, random.Intn(66)-32)
}

// P18.1: any speeds, points and times; enough of them show a product that is joined with the sum.
func TestAnySpeed(t *testing.T) {
	random := rand.New(rand.NewSource(18))
	shown := 0
	for range 60000 {
		old, p, q := anyOld(random), anyPoint(random), anyPoint(random)
		t0 := random.Uint32() >> random.Intn(32)
		u := t0 + 1 + random.Uint32()>>random.Intn(32)
		wantFloat(t, fmt.Sprint("Speed of ", old, p, q, t0, u), Speed(old, p, q, t0, u), wordSpeed(old, p, q, t0, u))
		if u > t0 && joined(old, p, q, t0, u) {
			shown++
		}
	}
	if shown < 100 {
		t.Errorf("joined steps would show %d times", shown)
	}
}

// P18.1: the distance is rounded ahead of its root, once: at the ends of 32 bits, and anywhere; each wrong way of rounding would show.
func TestDistance(t *testing.T) {
	random := rand.New(rand.NewSource(65))
	apart, twice, long, halves := 0, 0, 0, 0
	for n := range 200000 {
		p, q := anyPoint(random), anyPoint(random)
		if n%2 == 0 {
			// These are so far apart that the sum of their squares mostly has 65 bits.
			p, q = at(least+int32(random.Uint32()>>3), least+int32(random.Uint32()>>3)), at(greatest-int32(random.Uint32()>>3), greatest-int32(random.Uint32()>>3))
		}
		want := wordDistance(p, q)
		got := Way([]api.Point{p, q})
		if got != want {
			t.Fatalf("from %v to %v: %v, want %v", p, q, got, want)
		}
		s := square(p, q)
		dx, dy := float64(int64(q.X)-int64(p.X)), float64(int64(q.Y)-int64(p.Y))
		if math.Sqrt(float64(dx*dx)+float64(dy*dy)) != want {
			apart++
		}
		if s.BitLen() > 64 {
			long++
			half := new(big.Int).Rsh(s, 1).Uint64()
			if s.Bit(0) == 1 && float64(half) != float64(half|1) {
				halves++
			}
			if math.Sqrt(2*float64(half)) != want {
				twice++
			}
		}
	}
	// (Squares that are each rounded by themselves, sums of 65 bits, and those of which the last bit says which way they are rounded.)
	if apart < 100 || long < 10000 || halves < 1 || twice < 1 {
		t.Errorf("shown: %d, %d, %d, %d", apart, long, halves, twice)
	}
}

// P18.1: sums of 65 bits that are midway between two real numbers, or a last bit above that.
func TestDistanceMidway(t *testing.T) {
	found := map[uint64]int{}
	for dx := uint64(topmost); dx > topmost-3000; dx-- {
		for dy := uint64(topmost); dy > topmost-3000; dy-- {
			// The last 12 of 65 bits are those that a real number does not keep.
			low := (dx*dx + dy*dy) & 0xfff
			if low != 0x800 && low != 0x801 || found[low] >= 400 {
				continue
			}
			found[low]++
			p, q := at(least, least), at(int32(int64(dx)+least), int32(int64(dy)+least))
			wantFloat(t, fmt.Sprint("from ", p, " to ", q), Way([]api.Point{p, q}), wordDistance(p, q))
		}
	}
	if found[0x800] < 100 || found[0x801] < 100 {
		t.Errorf("found %v", found)
	}
}

// P18.8: from a finite speed from 0 on: from 0 on, and not above the greater one of it and v.
func checkBounds(t *testing.T, old float64, p, q api.Point, t0, u uint32) {
	t.Helper()
	v := old
	if u > t0 {
		v = Way([]api.Point{p, q}) / float64(u-t0)
	}
	got := Speed(old, p, q, t0, u)
	if !(got >= 0 && got <= max(old, v)) {
		t.Errorf("Speed of %v to %v in %d to %d: %v from %v, v is %v", p, q, t0, u, got, old, v)
	}
	still := Speed(old, p, p, t0, u)
	if !(still >= 0 && still <= old) {
		t.Errorf("standing still in %d to %d: %v from %v", t0, u, still, old)
	}
}

// P18.8: at all edges, and with the speed at v, just below and just above it, and near twice and half of it.
func TestSpeedIsWithinBounds(t *testing.T) {
	for _, u := range append(times(), [2]uint32{9, 9}, [2]uint32{9, 8}) {
		for _, m := range moves() {
			v := Way(m[:]) / float64(u[1]-u[0])
			list := olds()
			for _, x := range []float64{v, v / 2, 2 * v, v / 3, 3 * v} {
				list = append(list, x, math.Nextafter(x, inf), math.Nextafter(x, 0))
			}
			for _, old := range list {
				if old >= 0 && isFinite(old) {
					checkBounds(t, old, m[0], m[1], u[0], u[1])
				}
			}
		}
	}
}

// P18.8: anywhere.
func TestAnySpeedIsWithinBounds(t *testing.T) {
	random := rand.New(rand.NewSource(88))
	for range 200000 {
		t0 := random.Uint32() >> random.Intn(32)
		checkBounds(t, anyOld(random), anyPoint(random), anyPoint(random), t0, t0+random.Uint32()>>random.Intn(32))
	}
}

// P18.8: an object that stands still gets slower and slower, down to the least numbers, and never faster.
func TestStandingStill(t *testing.T) {
	for _, step := range []uint32{1, 2, 7, 8, 9, 100, 1 << 20} {
		old, u := 6e9, uint32(0)
		for range 4000 {
			got := Speed(old, at(3, 3), at(3, 3), u, u+step)
			if !(got >= 0 && got <= old) {
				t.Fatalf("%v behind %v", got, old)
			}
			old, u = got, (u+step)%(1<<31)
		}
		if old > 1 {
			t.Errorf("with steps of %d: %v at last", step, old)
		}
	}
}

// P18.2: ways of none, of one and of many points; each step is added behind the ones ahead of it.
func TestWay(t *testing.T) {
	for _, v := range [][]api.Point{nil, {}, {at(5, 5)}, {at(least, greatest)}} {
		wantFloat(t, fmt.Sprint("Way of ", v), Way(v), 0)
	}
	wantFloat(t, "to itself", Way([]api.Point{at(5, 5), at(5, 5), at(5, 5)}), 0)
	wantFloat(t, "there and back", Way([]api.Point{at(0, 0), at(3, 4), at(0, 0)}), 10)
	wantFloat(t, "as far as may be", Way([]api.Point{at(least, 0), at(greatest, 0)}), topmost)
	wantFloat(t, "across", Way([]api.Point{at(least, least), at(greatest, greatest)}), root(2*topmost*topmost))
	random := rand.New(rand.NewSource(2))
	backwards := 0
	for n := range 300 {
		var v []api.Point
		for range n {
			v = append(v, anyPoint(random))
		}
		want, other := 0.0, 0.0
		for i := 1; i < n; i++ {
			want = plus(want, wordDistance(v[i-1], v[i]))
			other = plus(other, wordDistance(v[n-i-1], v[n-i]))
		}
		wantFloat(t, fmt.Sprint("Way of ", n, " points"), Way(v), want)
		if want != other {
			backwards++
		}
	}
	if backwards < 50 {
		t.Errorf("adding from the end on would show %d times", backwards)
	}
}

// P0.1: what is handed in to Way is not changed, spare room behind it included.
func TestWayLeavesItsPoints(t *testing.T) {
	room := []api.Point{at(0, 0), at(3, 4), at(9, 9)}
	wantFloat(t, "a list with spare room", Way(room[:2]), 5)
	if room[0] != at(0, 0) || room[1] != at(3, 4) || room[2] != at(9, 9) {
		t.Errorf("changed: %v", room)
	}
}

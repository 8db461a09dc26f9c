package real

import (
	"math"
	"math/big"
	"testing"

	"paddock/api"
)

// wholeNear is the whole number nearest to a finite x, of two the even one, by whole numbers alone.
func wholeNear(x float64) *big.Int {
	r := exact(x)
	below, rest := new(big.Int).DivMod(r.Num(), r.Denom(), new(big.Int))
	half := new(big.Int).Lsh(rest, 1).Cmp(r.Denom())
	if half > 0 || half == 0 && below.Bit(0) == 1 {
		below.Add(below, big.NewInt(1))
	}
	return below
}

// nearestOf is what P2.1 says of Nearest.
func nearestOf(x float64) (int32, api.Errno) {
	if math.IsNaN(x) {
		return 0, api.ErrNaN
	}
	if math.IsInf(x, 0) || wholeNear(x).CmpAbs(big.NewInt(api.Bound)) > 0 {
		return 0, api.ErrRange
	}
	return int32(wholeNear(x).Int64()), api.OK
}

// P2.1
func TestNearest(t *testing.T) {
	for _, x := range reals() {
		want, e := nearestOf(x)
		if got, f := Nearest(x); got != want || f != e {
			t.Errorf("Nearest(%v): %d, %v, want %d, %v", x, got, f, want, e)
		}
	}
}

// P2.1
func TestNearestByHand(t *testing.T) {
	for _, c := range []struct {
		x    float64
		want int32
		e    api.Errno
	}{
		{2.5, 2, api.OK},
		{3.5, 4, api.OK},
		{-2.5, -2, api.OK},
		{-3.5, -4, api.OK},
		{0.5, 0, api.OK},
		{-0.5, 0, api.OK},
		{nought, 0, api.OK},
		{math.Nextafter(0.5, 0), 0, api.OK},
		{math.Nextafter(0.5, 1), 1, api.OK},
		{math.Nextafter(-0.5, -1), -1, api.OK},
		{1073741823, api.Bound, api.OK},
		{-1073741823, -api.Bound, api.OK},
		{1073741823.4, api.Bound, api.OK},
		{1073741822.5, api.Bound - 1, api.OK},
		{math.Nextafter(1073741823.5, 0), api.Bound, api.OK},
		{math.Nextafter(-1073741823.5, 0), -api.Bound, api.OK},
		{1073741823.5, 0, api.ErrRange},
		{-1073741823.5, 0, api.ErrRange},
		{1073741824, 0, api.ErrRange},
		{-1073741824, 0, api.ErrRange},
		// Numbers that a narrower one would go round to.
		{1 << 32, 0, api.ErrRange},
		{0x1p64, 0, api.ErrRange},
		{-0x1p80, 0, api.ErrRange},
		{math.MaxFloat64, 0, api.ErrRange},
		{inf, 0, api.ErrRange},
		{-inf, 0, api.ErrRange},
		{nan, 0, api.ErrNaN},
		{-nan, 0, api.ErrNaN},
	} {
		if got, e := Nearest(c.x); got != c.want || e != c.e {
			t.Errorf("Nearest(%v): %d, %v, want %d, %v", c.x, got, e, c.want, c.e)
		}
	}
}

// P2.1
func TestClamped(t *testing.T) {
	for _, x := range reals() {
		want, e := nearestOf(x)
		if e == api.ErrRange {
			want = api.Bound
			if x < 0 {
				want = -api.Bound
			}
		}
		if got := Clamped(x); got != want {
			t.Errorf("Clamped(%v): %d, want %d", x, got, want)
		}
	}
	for _, c := range []struct {
		x    float64
		want int32
	}{
		{1e300, api.Bound}, {-1e300, -api.Bound}, {inf, api.Bound}, {-inf, -api.Bound}, {nan, 0},
		{api.Bound + 0.25, api.Bound}, {-api.Bound - 0.25, -api.Bound}, {api.Bound - 0.75, api.Bound - 1}, {2.5, 2}, {-3.5, -4}, {nought, 0},
	} {
		if got := Clamped(c.x); got != c.want {
			t.Errorf("Clamped(%v): %d, want %d", c.x, got, c.want)
		}
	}
}

// P2.9
func TestNoneIsNearer(t *testing.T) {
	for _, x := range reals() {
		n, e := Nearest(x)
		if e != api.OK {
			continue
		}
		gap := func(n int64) *big.Rat {
			d := new(big.Rat).Sub(exact(x), new(big.Rat).SetInt64(n))
			return d.Abs(d)
		}
		if own := gap(int64(n)); own.Cmp(gap(int64(n)-1)) > 0 || own.Cmp(gap(int64(n)+1)) > 0 {
			t.Errorf("Nearest(%v): %d has a nearer neighbour", x, n)
		}
	}
}

// P2.9
func TestWholeStays(t *testing.T) {
	try := func(n int32) {
		if got, e := Nearest(float64(n)); got != n || e != api.OK {
			t.Errorf("Nearest(%d): %d, %v", n, got, e)
		}
		if got := Clamped(float64(n)); got != n {
			t.Errorf("Clamped(%d): %d", n, got)
		}
	}
	for n := int64(-api.Bound); n <= api.Bound; n += 9973 {
		try(int32(n))
	}
	for n := range int32(1000) {
		try(n - 500)
		try(api.Bound - n)
		try(n - api.Bound)
	}
}

// P2.2
func TestWhole(t *testing.T) {
	for _, x := range reals() {
		want, ok := int64(0), false
		if finite(x) && exact(x).IsInt() && exact(x).Num().IsInt64() {
			want, ok = exact(x).Num().Int64(), true
		}
		if got, is := Whole(x); got != want || is != ok {
			t.Errorf("Whole(%v): %d, %v, want %d, %v", x, got, is, want, ok)
		}
	}
	for _, c := range []struct {
		x    float64
		want int64
		ok   bool
	}{
		{-3, -3, true}, {2.5, 0, false}, {-0.5, 0, false}, {0, 0, true}, {nought, 0, true},
		{9223372036854775808, 0, false}, {-9223372036854775808, math.MinInt64, true},
		{math.Nextafter(0x1p63, 0), math.MaxInt64 - 1023, true}, {math.Nextafter(-0x1p63, -inf), 0, false},
		{1 << 53, 1 << 53, true}, {1e300, 0, false}, {-1e300, 0, false},
		{math.SmallestNonzeroFloat64, 0, false}, {inf, 0, false}, {-inf, 0, false}, {nan, 0, false},
	} {
		if got, ok := Whole(c.x); got != c.want || ok != c.ok {
			t.Errorf("Whole(%v): %d, %v, want %d, %v", c.x, got, ok, c.want, c.ok)
		}
	}
}

// P2.2
func TestParts(t *testing.T) {
	for _, x := range reals() {
		if !finite(x) {
			continue
		}
		r := exact(x)
		want := new(big.Rat).SetInt(new(big.Int).Quo(r.Num(), r.Denom()))
		whole, part := Parts(x)
		if exact(whole).Cmp(want) != 0 || exact(part).Cmp(new(big.Rat).Sub(r, want)) != 0 {
			t.Errorf("Parts(%v): %v and %v", x, whole, part)
		}
	}
	for _, c := range [][3]float64{
		{-2.75, -2, -0.75}, {2.75, 2, 0.75}, {-0.5, 0, -0.5}, {7, 7, 0}, {nought, 0, 0}, {0x1p63, 0x1p63, 0}, {-0x1p63, -0x1p63, 0}, {1e300, 1e300, 0}, {-1e300, -1e300, 0},
		{math.SmallestNonzeroFloat64, 0, math.SmallestNonzeroFloat64}, {inf, inf, nan}, {-inf, -inf, nan}, {nan, nan, nan},
	} {
		if whole, part := Parts(c[0]); !alike(whole, c[1]) || !alike(part, c[2]) {
			t.Errorf("Parts(%v): %v and %v, want %v and %v", c[0], whole, part, c[1], c[2])
		}
	}
}

// P2.2
func TestNarrow(t *testing.T) {
	for _, x := range reals() {
		if !finite(x) {
			continue
		}
		want, _ := exact(x).Float32()
		same := finite(float64(want)) && exact(float64(want)).Cmp(exact(x)) == 0
		if got, ok := Narrow(x); got != want || ok != same {
			t.Errorf("Narrow(%v): %v, %v, want %v, %v", x, got, ok, want, same)
		}
	}
	for _, c := range []struct {
		x, want float64
		ok      bool
	}{
		{0.5, 0.5, true}, {0.1, 0x1.99999ap-4, false}, {1e300, inf, false}, {-1e300, -inf, false}, {1e-300, 0, false},
		{math.MaxFloat32, math.MaxFloat32, true}, {0, 0, true}, {nought, 0, true}, {inf, inf, true}, {-inf, -inf, true}, {nan, nan, true},
	} {
		if got, ok := Narrow(c.x); !alike(float64(got), c.want) || ok != c.ok {
			t.Errorf("Narrow(%v): %v, %v, want %v, %v", c.x, got, ok, c.want, c.ok)
		}
	}
}

// P2.3
func TestCompareByRank(t *testing.T) {
	// Each row is alike in itself and above the one ahead of it.
	rows := [][]float64{
		{-inf}, {-math.MaxFloat64}, {-1e300}, {math.Nextafter(-1, -2)}, {-1}, {-math.SmallestNonzeroFloat64}, {0, nought},
		{math.SmallestNonzeroFloat64}, {1}, {math.Nextafter(1, 2)}, {1 << 53}, {1<<53 + 2}, {math.MaxFloat64}, {inf}, {nan, -nan, math.Float64frombits(0xfff8000000000001)},
	}
	for i, as := range rows {
		for j, bs := range rows {
			want := max(-1, min(1, i-j))
			for _, a := range as {
				for _, b := range bs {
					if got := Compare(a, b); got != want {
						t.Errorf("Compare(%v, %v): %d, want %d", a, b, got, want)
					}
				}
			}
		}
	}
}

// P2.3, P2.11
func TestCompareIsAnOrder(t *testing.T) {
	list := reals()[:180]
	for _, a := range list {
		for _, b := range list {
			ab := Compare(a, b)
			if ba := Compare(b, a); ba != -ab || ab < -1 || ab > 1 {
				t.Errorf("Compare(%v, %v) is %d, the other way %d", a, b, ab, ba)
			}
			if (ab == 0) != alike(a, b) {
				t.Errorf("Compare(%v, %v): %d", a, b, ab)
			}
			for _, c := range list {
				if ab <= 0 && Compare(b, c) <= 0 && Compare(a, c) > 0 {
					t.Errorf("%v, %v, %v are in no order", a, b, c)
				}
			}
		}
	}
}

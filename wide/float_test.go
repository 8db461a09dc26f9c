package wide

import (
	"math"
	"math/big"
	"math/rand"
	"testing"

	"paddock/api"
)

// nearest is v as a float64, rounded to the nearest and to the even one between two.
func nearest(v *big.Int) float64 {
	f, _ := new(big.Float).SetPrec(256).SetInt(v).Float64()
	return f
}

// ties are numbers at the middle between two neighbouring real numbers and beside it, at every length: of 54 bits the last is the half.
func ties() []Int {
	var list []Int
	for by := uint(0); by <= 73; by++ {
		for _, m := range []int64{1 << 53, 1<<53 | 1, 1<<53 | 2, 1<<53 | 3, 1<<54 - 1} {
			mid := fromBig(new(big.Int).Lsh(big.NewInt(m), by))
			list = append(list, mid, mid.Add(Of(1)), mid.Sub(Of(1)), mid.Neg(), mid.Neg().Add(Of(1)), mid.Neg().Sub(Of(1)))
		}
	}
	return list
}

// P1.6
func TestFloat(t *testing.T) {
	for _, a := range append(numbers(), ties()...) {
		if got, want := a.Float(), nearest(toBig(a)); got != want {
			t.Errorf("Float of %v: %v, want %v", a, got, want)
		}
	}
}

// P1.6
func TestFloatByHand(t *testing.T) {
	for _, x := range []struct {
		a    Int
		want float64
	}{
		{Of(1<<53 + 1), 1 << 53},
		{Of(1<<53 + 3), 1<<53 + 4},
		{Of(-1<<53 - 1), -1 << 53},
		{Int{greatest, all}, 0x1p127},
		{Int{least, 0}, -0x1p127},
		{Int{1, 1 << 11}, 0x1p64},
		{Int{1, 1<<11 + 1}, 0x1.0000000000001p64},
	} {
		if got := x.a.Float(); got != x.want {
			t.Errorf("Float of %v: %v, want %v", x.a, got, x.want)
		}
	}
	if f := Of(0).Float(); f != 0 || math.Signbit(f) {
		t.Errorf("Float of 0: %v, signed: %v", f, math.Signbit(f))
	}
}

// reals are numbers of all lengths, with fractions and without, and beyond what an Int holds.
func reals() []float64 {
	list := []float64{0, math.Copysign(0, -1), 0.5, -0.5, 0.9999999999999999, 1, -1.9, 1e15, 1<<53 - 0.5, 0x1.fffffffffffffp126, 0x1p63, 0x1p64, -0x1p64, 0x1.8p65, 0x1.fffffffffffffp63, -0x1p127, 0x1p127, math.Nextafter(-0x1p127, math.Inf(-1)), math.MaxFloat64, -math.MaxFloat64, math.SmallestNonzeroFloat64, -math.SmallestNonzeroFloat64, 0x1p-1022}
	r := rand.New(rand.NewSource(3))
	for exp := -3; exp < 130; exp++ {
		for range 5 {
			f := math.Ldexp(1+r.Float64(), exp)
			list = append(list, f, -f)
		}
	}
	return list
}

// P1.6
func TestFromFloat(t *testing.T) {
	for _, f := range reals() {
		want, _ := new(big.Float).SetFloat64(f).Int(nil)
		got, e := FromFloat(f)
		if !inRange(want) {
			if got != (Int{}) || e != api.ErrWide {
				t.Errorf("FromFloat(%v): %v, %v, want ErrWide", f, got, e)
			}
			continue
		}
		same(t, got, want, "FromFloat(%v)", f)
		if e != api.OK {
			t.Errorf("FromFloat(%v): %v", f, e)
		}
	}
}

// P1.6
func TestFromFloatRefuses(t *testing.T) {
	for _, x := range []struct {
		f float64
		e api.Errno
	}{
		{math.NaN(), api.ErrArg},
		{math.Inf(1), api.ErrWide},
		{math.Inf(-1), api.ErrWide},
		{0x1p127, api.ErrWide},
		{math.Nextafter(-0x1p127, math.Inf(-1)), api.ErrWide},
	} {
		if got, e := FromFloat(x.f); got != (Int{}) || e != x.e {
			t.Errorf("FromFloat(%v): %v, %v, want %v", x.f, got, e, x.e)
		}
	}
	if got, e := FromFloat(-0x1p127); got != (Int{least, 0}) || e != api.OK {
		t.Errorf("FromFloat(-2^127): %v, %v", got, e)
	}
}

// P1.10
func TestFloatAndBack(t *testing.T) {
	edge := power(53)
	for _, a := range append(numbers(), Of(1<<53), Of(-1<<53), Of(1<<53-1), Of(1-1<<53)) {
		if new(big.Int).Abs(toBig(a)).Cmp(edge) > 0 {
			continue
		}
		if b, e := FromFloat(a.Float()); b != a || e != api.OK {
			t.Errorf("%v became %v, %v", a, b, e)
		}
	}
}

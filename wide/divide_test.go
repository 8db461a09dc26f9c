package wide

import (
	"math/big"
	"testing"

	"paddock/api"
)

// P1.4
func TestQuo(t *testing.T) {
	for _, a := range numbers() {
		for _, d := range words() {
			if d == 0 {
				continue
			}
			q, r := new(big.Int).DivMod(toBig(a), big.NewInt(d), new(big.Int))
			got, rest, e := a.Quo(d)
			same(t, got, round(q), "%v.Quo(%d)", a, d)
			if rest != r.Uint64() || e != api.OK {
				t.Errorf("%v.Quo(%d): %d is left, %v, want %v", a, d, rest, e, r)
			}
		}
	}
}

// P1.4
func TestQuoByHand(t *testing.T) {
	for _, x := range []struct {
		a    Int
		d    int64
		q    Int
		rest uint64
	}{
		{Of(-7), 2, Of(-4), 1},
		{Of(-7), -2, Of(4), 1},
		{Of(7), -2, Of(-3), 1},
		{Of(5), least, Of(0), 5},
		{Of(-5), least, Of(1), 1<<63 - 5},
		{Int{least, 0}, -1, Int{least, 0}, 0},
	} {
		if q, rest, e := x.a.Quo(x.d); q != x.q || rest != x.rest || e != api.OK {
			t.Errorf("%v.Quo(%d): %v, %d, %v", x.a, x.d, q, rest, e)
		}
	}
}

// P1.4
func TestQuoByNought(t *testing.T) {
	for _, a := range numbers() {
		if q, rest, e := a.Quo(0); q != (Int{}) || rest != 0 || e != api.ErrNought {
			t.Errorf("%v.Quo(0): %v, %d, %v", a, q, rest, e)
		}
	}
}

// P1.5
func TestSqrt(t *testing.T) {
	list := append(numbers(), Mul(3, 5), Of(16), Int{greatest, all})
	for _, v := range words() {
		// A square and its neighbours.
		list = append(list, Mul(v, v), Mul(v, v).Sub(Of(1)), Mul(v, v).Add(Of(1)))
	}
	for _, a := range list {
		want, e := uint64(0), api.ErrNegative
		if toBig(a).Sign() >= 0 {
			want, e = new(big.Int).Sqrt(toBig(a)).Uint64(), api.OK
		}
		if got, f := a.Sqrt(); got != want || f != e {
			t.Errorf("Sqrt of %v: %d, %v, want %d, %v", a, got, f, want, e)
		}
	}
}

// P1.9
func TestGcd(t *testing.T) {
	for _, a := range words() {
		for _, b := range words() {
			x, y := new(big.Int).Abs(big.NewInt(a)), new(big.Int).Abs(big.NewInt(b))
			if got, want := Gcd(a, b), new(big.Int).GCD(nil, nil, x, y).Uint64(); got != want {
				t.Errorf("Gcd(%d, %d): %d, want %d", a, b, got, want)
			}
		}
	}
}

// P1.9
func TestGcdByHand(t *testing.T) {
	if Gcd(-12, 18) != 6 || Gcd(0, least) != 1<<63 || Gcd(least, least) != 1<<63 || Gcd(0, 0) != 0 || Gcd(7, 0) != 7 {
		t.Error("the chapter's examples")
	}
}

package wide

import (
	"math/big"
	"testing"

	"paddock/api"
)

// P1.1
func TestMadeOfWords(t *testing.T) {
	if Of(-1) != (Int{-1, all}) || Unsigned(all) != (Int{0, all}) || Of(0) != (Int{}) {
		t.Errorf("the chapter's examples: %v, %v, %v", Of(-1), Unsigned(all), Of(0))
	}
	for _, v := range words() {
		same(t, Of(v), big.NewInt(v), "Of(%d)", v)
		same(t, Unsigned(uint64(v)), new(big.Int).SetUint64(uint64(v)), "Unsigned(%d)", uint64(v))
	}
}

// P1.1
func TestMul(t *testing.T) {
	if p := Mul(least, least); p != (Int{1 << 62, 0}) {
		t.Errorf("the chapter's example: %v", p)
	}
	for _, a := range words() {
		for _, b := range words() {
			want := new(big.Int).Mul(big.NewInt(a), big.NewInt(b))
			same(t, Mul(a, b), want, "Mul(%d, %d)", a, b)
		}
	}
}

// P1.2
func TestSumsGoRound(t *testing.T) {
	if s := (Int{greatest, all}).Add(Of(1)); s != (Int{least, 0}) {
		t.Errorf("above the greatest: %v", s)
	}
	if s := (Int{least, 0}).Sub(Of(1)); s != (Int{greatest, all}) {
		t.Errorf("below the least: %v", s)
	}
	if s := (Int{least, 0}).Neg(); s != (Int{least, 0}) {
		t.Errorf("Neg of the least: %v", s)
	}
}

// P1.2
func TestSums(t *testing.T) {
	for _, a := range numbers() {
		same(t, a.Neg(), round(new(big.Int).Neg(toBig(a))), "Neg of %v", a)
		for _, b := range numbers() {
			same(t, a.Add(b), round(new(big.Int).Add(toBig(a), toBig(b))), "%v.Add(%v)", a, b)
			same(t, a.Sub(b), round(new(big.Int).Sub(toBig(a), toBig(b))), "%v.Sub(%v)", a, b)
		}
	}
}

// P1.3
func TestOrder(t *testing.T) {
	for _, a := range numbers() {
		if got, want := a.Sign(), toBig(a).Sign(); got != want {
			t.Errorf("Sign of %v: %d, want %d", a, got, want)
		}
		for _, b := range numbers() {
			if got, want := a.Cmp(b), toBig(a).Cmp(toBig(b)); got != want {
				t.Errorf("%v.Cmp(%v): %d, want %d", a, b, got, want)
			}
		}
	}
}

// P1.3
func TestInt64(t *testing.T) {
	edges := []Int{Of(greatest), Of(greatest).Add(Of(1)), Of(least), Of(least).Sub(Of(1)), {1, 5}, {-1, 5}}
	for _, a := range append(edges, numbers()...) {
		want, ok := int64(0), toBig(a).IsInt64()
		if ok {
			want = toBig(a).Int64()
		}
		if got, is := a.Int64(); got != want || is != ok {
			t.Errorf("Int64 of %v: %d, %v, want %d, %v", a, got, is, want, ok)
		}
	}
}

// P1.8
func TestCmpMul(t *testing.T) {
	w := words()
	for i, a := range w {
		for j, b := range w {
			c, d := w[(i*7+j)%len(w)], w[(j*11+3)%len(w)]
			want := new(big.Int).Mul(big.NewInt(a), big.NewInt(b)).Cmp(new(big.Int).Mul(big.NewInt(c), big.NewInt(d)))
			if got := CmpMul(a, b, c, d); got != want {
				t.Errorf("CmpMul(%d, %d, %d, %d): %d, want %d", a, b, c, d, got, want)
			}
			if got := CmpMul(a, b, b, a); got != 0 {
				t.Errorf("CmpMul(%d, %d, %d, %d): %d, want 0", a, b, b, a, got)
			}
		}
	}
}

// P1.8
func TestCmpFrac(t *testing.T) {
	w := words()
	for i, an := range w {
		for j, ad := range w {
			bn, bd := w[(i*5+j+1)%len(w)], w[(j*3+i*2+1)%len(w)]
			if ad == 0 || bd == 0 {
				continue
			}
			want := big.NewRat(an, ad).Cmp(big.NewRat(bn, bd))
			if got, e := CmpFrac(an, ad, bn, bd); got != want || e != api.OK {
				t.Errorf("CmpFrac(%d, %d, %d, %d): %d, %v, want %d", an, ad, bn, bd, got, e, want)
			}
		}
	}
}

// P1.8
func TestCmpFracByHand(t *testing.T) {
	for _, x := range []struct {
		an, ad, bn, bd int64
		want           int
		e              api.Errno
	}{
		{1, 3, -2, -6, 0, api.OK},
		{1, -2, 0, 5, -1, api.OK},
		{least, least, 1, 1, 0, api.OK},
		{greatest, greatest - 1, greatest - 1, greatest - 2, -1, api.OK},
		{least, -1, greatest, 1, 1, api.OK},
		{5, 0, 1, 2, 0, api.ErrNought},
		{5, 1, 1, 0, 0, api.ErrNought},
		{0, 0, 0, 0, 0, api.ErrNought},
	} {
		if got, e := CmpFrac(x.an, x.ad, x.bn, x.bd); got != x.want || e != x.e {
			t.Errorf("CmpFrac(%d, %d, %d, %d): %d, %v", x.an, x.ad, x.bn, x.bd, got, e)
		}
	}
}

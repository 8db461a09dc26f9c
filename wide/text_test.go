package wide

import (
	"math/big"
	"strings"
	"testing"

	"paddock/api"
)

// ten is 10^n.
func ten(n int64) *big.Int { return new(big.Int).Exp(big.NewInt(10), big.NewInt(n), nil) }

// tens are the numbers about the powers of ten, where digits are added.
func tens() []Int {
	var list []Int
	for n := range int64(39) {
		p := fromBig(ten(n))
		list = append(list, p, p.Sub(Of(1)), p.Add(Of(1)), p.Neg(), p.Neg().Add(Of(1)))
	}
	return list
}

// P1.7
func TestText(t *testing.T) {
	for _, a := range append(numbers(), tens()...) {
		if got, want := a.Text(), toBig(a).String(); got != want {
			t.Errorf("Text of %v: %s, want %s", a, got, want)
		}
	}
	if got := Mul(1e18, -1e18).Text(); got != "-1"+strings.Repeat("0", 36) {
		t.Errorf("the chapter's example: %s", got)
	}
}

// P1.7
func TestParseAboutItsEdges(t *testing.T) {
	edges := []*big.Int{power(63), power(64), power(127), power(128), ten(18), ten(19), ten(20), ten(38), ten(39)}
	// Where the digits ahead of the last ones come to 64 bits.
	edges = append(edges, new(big.Int).Mul(power(64), ten(18)), new(big.Int).Mul(power(64), ten(19)))
	for _, edge := range edges {
		for by := int64(-2); by <= 2; by++ {
			v := new(big.Int).Add(edge, big.NewInt(by))
			parsesAs(t, v)
			parsesAs(t, new(big.Int).Neg(v))
		}
	}
}

// parsesAs fails, unless v's text is parsed as v, or as ErrWide where no Int holds it.
func parsesAs(t *testing.T, v *big.Int) {
	t.Helper()
	want, e := v, api.OK
	if !inRange(v) {
		want, e = new(big.Int), api.ErrWide
	}
	got, f := Parse(v.String())
	same(t, got, want, "Parse(%q)", v.String())
	if f != e {
		t.Errorf("Parse(%q): %v, want %v", v.String(), f, e)
	}
}

// P1.7
func TestParseRefuses(t *testing.T) {
	long := strings.Repeat("9", 100000)
	for s, want := range map[string]api.Errno{
		"": api.ErrNumeral, "-": api.ErrNumeral, "-0": api.ErrNumeral, "+1": api.ErrNumeral, "+0": api.ErrNumeral,
		"01": api.ErrNumeral, "00": api.ErrNumeral, "-01": api.ErrNumeral, "--1": api.ErrNumeral, "1-": api.ErrNumeral,
		" 1": api.ErrNumeral, "1 ": api.ErrNumeral, "1_0": api.ErrNumeral, "0x1": api.ErrNumeral, "1e3": api.ErrNumeral,
		"1.0": api.ErrNumeral, "1\n": api.ErrNumeral, "1\x00": api.ErrNumeral, "\xff": api.ErrNumeral, "١": api.ErrNumeral,
		"a": api.ErrNumeral, ":": api.ErrNumeral, "/": api.ErrNumeral,
		// What is no number's text is none at any length.
		long + "x": api.ErrNumeral, "0" + long: api.ErrNumeral, "-0" + long: api.ErrNumeral,
		long: api.ErrWide, "-" + long: api.ErrWide,
		"170141183460469231731687303715884105728":  api.ErrWide,
		"-170141183460469231731687303715884105729": api.ErrWide,
	} {
		if got, e := Parse(s); got != (Int{}) || e != want {
			t.Errorf("Parse of %d bytes, %.50q: %v, %v, want %v", len(s), s, got, e, want)
		}
	}
}

// P1.10
func TestTextAndBack(t *testing.T) {
	for _, a := range append(numbers(), tens()...) {
		if b, e := Parse(a.Text()); b != a || e != api.OK {
			t.Errorf("%v became %v, %v, by %s", a, b, e, a.Text())
		}
	}
	for _, s := range []string{"0", "5", "-5", "10000000000000000000", "-170141183460469231731687303715884105728", "100000000000000000000000000000000000001"} {
		if a, e := Parse(s); a.Text() != s || e != api.OK {
			t.Errorf("%s became %s, %v", s, a.Text(), e)
		}
	}
}

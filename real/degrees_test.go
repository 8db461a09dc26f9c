package real

import (
	"math"
	"math/big"
	"math/rand"
	"regexp"
	"strings"
	"testing"

	"paddock/api"
)

// micros is a text's value times a million.
func micros(t *testing.T, text string) *big.Rat {
	t.Helper()
	v, ok := new(big.Rat).SetString(text)
	if !ok {
		t.Fatalf("%q has no value", text)
	}
	return v.Mul(v, big.NewRat(1000000, 1))
}

// readsAs fails, unless Micro reads a number's text as P2.7 says.
func readsAs(t *testing.T, text string) {
	t.Helper()
	v := micros(t, text)
	want, e := int32(0), api.ErrRange
	if v.Num().CmpAbs(big.NewInt(api.MaxMicro)) <= 0 {
		want, e = int32(v.Num().Int64()), api.OK
	}
	got, f := Micro(text)
	if got != want || f != e {
		t.Errorf("Micro(%q): %d, %v, want %d, %v", text, got, f, want, e)
	}
	if e == api.OK && micros(t, Degrees(got)).Cmp(v) != 0 {
		t.Errorf("P2.8: %q became %q", text, Degrees(got))
	}
}

// P2.7, P2.8
func TestMicro(t *testing.T) {
	r := rand.New(rand.NewSource(7))
	for range 20000 {
		text := []string{"", "-"}[r.Intn(2)] + digits(r, 1+r.Intn(4))
		if n := r.Intn(7); n > 0 {
			text += "." + digits(r, n)
		}
		readsAs(t, text)
	}
	for _, text := range []string{
		"180", "180.0", "180.000000", "179.999999", "180.000001", "181", "18", "1800", "0.000001", "0.0000", "9223372036854775808", "18446744073709551616", "4294967296", "4294.967297", "00180.5", "-0",
		strings.Repeat("9", 63), strings.Repeat("0", 60) + "180", strings.Repeat("0", 56) + "12.5",
	} {
		readsAs(t, text)
		readsAs(t, "-"+strings.TrimPrefix(text, "-"))
	}
}

// P2.7
func TestMicroTakesDegreesAlone(t *testing.T) {
	degrees := regexp.MustCompile(`^-?[0-9]+(\.[0-9]{1,6})?$`)
	try := func(text string) {
		m, e := Micro(text)
		if (e == api.ErrDigits) == degrees.MatchString(text) || e == api.ErrLong {
			t.Errorf("Micro(%q): %d, %v", text, m, e)
		}
		wantBeside(t, m, e, text)
	}
	everyText("-+.e09x ", 6, try)
	everyText("-.1", 11, try)
}

// P2.7
func TestMicroByHand(t *testing.T) {
	for _, c := range []struct {
		text string
		want int32
		e    api.Errno
	}{
		{"-12.5", -12500000, api.OK},
		{"007", 7000000, api.OK},
		{"-0", 0, api.OK},
		{"-0.000000", 0, api.OK},
		{"180", api.MaxMicro, api.OK},
		{"-180.000000", -api.MaxMicro, api.OK},
		{"179.999999", api.MaxMicro - 1, api.OK},
		{"-179.999999", 1 - api.MaxMicro, api.OK},
		{strings.Repeat("0", 57) + "1.00000", 1000000, api.OK},
		{strings.Repeat("0", 61) + "180", api.MaxMicro, api.OK},
		{"180.000001", 0, api.ErrRange},
		{"-180.000001", 0, api.ErrRange},
		{"99999999999999999999", 0, api.ErrRange},
		{strings.Repeat("9", 64), 0, api.ErrRange},
		{"1.1234567", 0, api.ErrDigits},
		{"1.0000000", 0, api.ErrDigits},
		{"", 0, api.ErrDigits},
		{"1.", 0, api.ErrDigits},
		{".5", 0, api.ErrDigits},
		{"+1", 0, api.ErrDigits},
		{"1e2", 0, api.ErrDigits},
		{"1.5e0", 0, api.ErrDigits},
		{"nan", 0, api.ErrDigits},
		{"inf", 0, api.ErrDigits},
		{"1\xff", 0, api.ErrDigits},
		{"1°", 0, api.ErrDigits},
		// What is no text of degrees is none, however great it would be.
		{"999999999999.1234567", 0, api.ErrDigits},
		{"99999999999999999999x", 0, api.ErrDigits},
		{strings.Repeat("x", 64), 0, api.ErrDigits},
		// Too long comes first.
		{strings.Repeat("0", 65), 0, api.ErrLong},
		{strings.Repeat("9", 65), 0, api.ErrLong},
		{strings.Repeat("x", 65), 0, api.ErrLong},
		{strings.Repeat("1", 100000), 0, api.ErrLong},
	} {
		if got, e := Micro(c.text); got != c.want || e != c.e {
			t.Errorf("Micro(%.70q): %d, %v, want %d, %v", c.text, got, e, c.want, c.e)
		}
	}
}

// someMicros are numbers of 32 bits: edges, and others that are the same in each run.
func someMicros() []int32 {
	list := []int32{math.MinInt32, math.MinInt32 + 1, math.MaxInt32}
	for _, m := range []int32{0, 1, 5, 10, 100000, 123456, 999999, 1000000, 1000001, 1100000, 10000000, 12500000, 100000000, 100000001, api.MaxMicro - 1, api.MaxMicro, api.MaxMicro + 1} {
		list = append(list, m, -m)
	}
	r := rand.New(rand.NewSource(8))
	for range 20000 {
		list = append(list, int32(r.Uint32()), r.Int31n(2*api.MaxMicro+1)-api.MaxMicro, r.Int31n(361)*1000000-api.MaxMicro)
	}
	return list
}

// P2.7
func TestDegrees(t *testing.T) {
	shortest := regexp.MustCompile(`^(0|-?[1-9][0-9]*|-?(0|[1-9][0-9]*)\.[0-9]{0,5}[1-9])$`)
	for _, m := range someMicros() {
		text := Degrees(m)
		if !shortest.MatchString(text) || micros(t, text).Cmp(big.NewRat(int64(m), 1)) != 0 {
			t.Errorf("Degrees(%d): %q", m, text)
		}
	}
	for _, c := range []struct {
		m    int32
		want string
	}{
		{-12500000, "-12.5"}, {0, "0"}, {1, "0.000001"}, {-1, "-0.000001"}, {1000000, "1"}, {-100000, "-0.1"}, {10000000, "10"}, {100010, "0.10001"},
		{api.MaxMicro, "180"}, {-api.MaxMicro, "-180"}, {math.MinInt32, "-2147.483648"}, {math.MaxInt32, "2147.483647"},
	} {
		if got := Degrees(c.m); got != c.want {
			t.Errorf("Degrees(%d): %q, want %q", c.m, got, c.want)
		}
	}
}

// P2.8
func TestDegreesAndBack(t *testing.T) {
	for _, m := range someMicros() {
		want, e := m, api.OK
		if m < -api.MaxMicro || m > api.MaxMicro {
			want, e = 0, api.ErrRange
		}
		if got, f := Micro(Degrees(m)); got != want || f != e {
			t.Errorf("%d became %d, %v, by %q", m, got, f, Degrees(m))
		}
	}
}

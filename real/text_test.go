package real

import (
	"math"
	"math/big"
	"math/rand"
	"regexp"
	"strconv"
	"strings"
	"testing"

	"paddock/api"
)

// everyText goes through all texts of up to n bytes out of an alphabet.
func everyText(alphabet string, n int, visit func(string)) {
	var grow func(text string)
	grow = func(text string) {
		visit(text)
		if len(text) == n {
			return
		}
		for i := range len(alphabet) {
			grow(text + alphabet[i:i+1])
		}
	}
	grow("")
}

// P2.6
func TestParseTakesNumbersAlone(t *testing.T) {
	number := regexp.MustCompile(`^-?[0-9]+(\.[0-9]+)?(e[+-]?[0-9]+)?$`)
	everyText("-+.e09Ex_ ", 6, func(text string) {
		x, e := Parse(text)
		if (e == api.ErrDigits) == number.MatchString(text) || e == api.ErrLong {
			t.Errorf("Parse(%q): %v, %v", text, x, e)
		}
		wantBeside(t, x, e, text)
	})
}

// P2.6
func TestParseRefuses(t *testing.T) {
	for text, want := range map[string]api.Errno{
		"": api.ErrDigits, "-": api.ErrDigits, "1.": api.ErrDigits, ".5": api.ErrDigits, "-.5": api.ErrDigits, "+1": api.ErrDigits,
		"0x1": api.ErrDigits, "0x1p4": api.ErrDigits, "1_0": api.ErrDigits, "1E5": api.ErrDigits, "1e": api.ErrDigits, "1e+": api.ErrDigits,
		"1e-": api.ErrDigits, "1e1.5": api.ErrDigits, "1.e1": api.ErrDigits, "1e5e5": api.ErrDigits, "1.2.3": api.ErrDigits, "--1": api.ErrDigits,
		" 1": api.ErrDigits, "1 ": api.ErrDigits, "1\n": api.ErrDigits, "1\x00": api.ErrDigits, "\xff": api.ErrDigits, "١": api.ErrDigits, "1,5": api.ErrDigits,
		"NaN": api.ErrDigits, "Nan": api.ErrDigits, "-nan": api.ErrDigits, "+nan": api.ErrDigits, "nan ": api.ErrDigits, "nanx": api.ErrDigits,
		"Inf": api.ErrDigits, "INF": api.ErrDigits, "+inf": api.ErrDigits, "-Inf": api.ErrDigits, "infinity": api.ErrDigits, "-infinity": api.ErrDigits, "in": api.ErrDigits, "--inf": api.ErrDigits,
		"1e400": api.ErrRange, "-1e400": api.ErrRange, "1e309": api.ErrRange, "1.797693134862315808e308": api.ErrRange, "-1.797693134862315808e308": api.ErrRange,
		"1e99999999999999999999999999": api.ErrRange, "0." + strings.Repeat("0", 40) + "1e99999": api.ErrRange,
		strings.Repeat("1", 65): api.ErrLong, "1e400" + strings.Repeat("0", 60): api.ErrLong, strings.Repeat("x", 65): api.ErrLong,
		"inf" + strings.Repeat(" ", 62): api.ErrLong, strings.Repeat("9", 100000): api.ErrLong,
		strings.Repeat("x", 64): api.ErrDigits, strings.Repeat("-", 64): api.ErrDigits, "1e" + strings.Repeat("9", 62): api.ErrRange,
	} {
		if x, e := Parse(text); x != 0 || e != want {
			t.Errorf("Parse(%.70q): %v, %v, want %v", text, x, e, want)
		}
	}
}

// P2.6
func TestParseByHand(t *testing.T) {
	for _, c := range []struct {
		text string
		want float64
	}{
		{"nan", nan}, {"inf", inf}, {"-inf", -inf},
		{"0", 0}, {"-0", nought}, {"-0.000", nought}, {"-0e5", nought}, {"0e99999999", 0}, {"-0e99999999", nought},
		{"1e-400", 0}, {"-1e-400", nought}, {"1e-99999999999999999999", 0},
		{"00012.50e+1", 125}, {"12.50e1", 125}, {"125e-1", 12.5}, {"1e005", 1e5}, {"1e-0", 1}, {"0.1", 0.1}, {"007", 7},
		{"9007199254740993", 9007199254740992}, {"9007199254740995", 9007199254740996}, {"9007199254740993.00000000000000000000001", 9007199254740994},
		{"1.797693134862315807e308", math.MaxFloat64}, {"-1.797693134862315807e308", -math.MaxFloat64},
		{"2.4703282292062327e-324", 0}, {"2.4703282292062328e-324", math.SmallestNonzeroFloat64}, {"2.2250738585072011e-308", 0x0.fffffffffffffp-1022},
		{strings.Repeat("0", 63) + "5", 5}, {"-" + strings.Repeat("0", 59) + "12e1", -120}, {"0." + strings.Repeat("0", 59) + "1e0", 1e-60},
		{strings.Repeat("1", 64), 1111111111111111111111111111111111111111111111111111111111111111},
	} {
		if got, e := Parse(c.text); !sameBits(got, c.want) || e != api.OK {
			t.Errorf("Parse(%q): %v, %v, want %v", c.text, got, e, c.want)
		}
	}
}

// digits are n digits.
func digits(r *rand.Rand, n int) string {
	b := make([]byte, n)
	for i := range b {
		b[i] = byte('0' + r.Intn(10))
	}
	return string(b)
}

// P2.6
func TestParseIsNearest(t *testing.T) {
	r := rand.New(rand.NewSource(5))
	for range 20000 {
		text := digits(r, 1+r.Intn(20))
		if r.Intn(2) == 0 {
			text += "." + digits(r, 1+r.Intn(36))
		}
		if r.Intn(3) > 0 {
			text += "e" + []string{"", "+", "-"}[r.Intn(3)] + strconv.Itoa(r.Intn(340))
		}
		sign := []string{"", "-"}[r.Intn(2)]
		v, _ := new(big.Rat).SetString(text)
		want, _ := v.Float64()
		e := api.OK
		if sign == "-" {
			want = -want
		}
		if math.IsInf(want, 0) {
			want, e = 0, api.ErrRange
		}
		if got, f := Parse(sign + text); !sameBits(got, want) || f != e {
			t.Errorf("Parse(%q): %v, %v, want %v, %v", sign+text, got, f, want, e)
		}
	}
}

// P2.6
func TestPrint(t *testing.T) {
	for _, c := range []struct {
		x    float64
		want string
	}{
		{nan, "nan"}, {-nan, "nan"}, {inf, "inf"}, {-inf, "-inf"}, {0, "0"}, {nought, "-0"},
		{1e21, "1e+21"}, {1e20, "1e+20"}, {0.000001, "1e-06"}, {0.0001, "0.0001"}, {0.00001, "1e-05"}, {0.1, "0.1"}, {-12.5, "-12.5"},
		{100000, "100000"}, {1234567, "1.234567e+06"}, {math.MaxFloat64, "1.7976931348623157e+308"}, {math.SmallestNonzeroFloat64, "5e-324"}, {-1e-310, "-1e-310"},
	} {
		if got := Print(c.x); got != c.want {
			t.Errorf("Print(%v): %q, want %q", c.x, got, c.want)
		}
	}
	for _, x := range reals() {
		if want := strconv.FormatFloat(x, 'g', -1, 64); finite(x) && Print(x) != want {
			t.Errorf("Print(%v): %q, want %q", x, Print(x), want)
		}
	}
}

// P2.8
func TestPrintAndBack(t *testing.T) {
	r := rand.New(rand.NewSource(6))
	list := reals()
	for range 20000 {
		list = append(list, math.Float64frombits(r.Uint64()))
	}
	for _, x := range list {
		if got, e := Parse(Print(x)); !sameBits(got, x) || e != api.OK {
			t.Errorf("%v became %v, %v, by %q", x, got, e, Print(x))
		}
	}
}

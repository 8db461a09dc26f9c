package turn

import (
	"math"
	"slices"
	"testing"

	"paddock/api"
)

// P8.1
func TestUnit(t *testing.T) {
	if got := Unit(); got != similar(1, 0) {
		t.Errorf("%v", got)
	}
}

// P8.1
func TestApply(t *testing.T) {
	next := numbers(1)
	joined := 0
	for i := range 20000 {
		m, z := similar(next(i), next(i)), next(i)
		if got, want := Apply(m, z), wordPlus(wordTimes(m.A, z), m.B); !likeBoth(got, want) {
			t.Errorf("Apply(%v, %v): %v, want %v", m, z, got, want)
		}
		if joinsTimes(m.A, z) {
			joined++
		}
	}
	if joined < 100 {
		t.Errorf("only %d of these would show that two operations were joined", joined)
	}
}

// P8.1
func TestApplyByHand(t *testing.T) {
	for _, c := range []struct {
		m       api.Similar
		z, want complex128
	}{
		{similar(1i, 1), 2 + 3i, -2 + 2i},
		{similar(1, 0), 5 - 7i, 5 - 7i},
		{similar(0, 3+4i), 1e300, 3 + 4i},
		{similar(2+3i, 5-1i), 4 + 7i, -8 + 25i},
		{similar(0, 0), 0, 0},
		{similar(complex(nought, nought), complex(nought, nought)), complex(nought, 0), 0},
		// A nought times what is infinite is NaN, part by part.
		{similar(complex(inf, 0), 0), 1, complex(inf, nan)},
		{similar(complex(inf, 0), 0), 1i, complex(nan, inf)},
		{similar(complex(inf, 0), 0), 1 + 1i, complex(inf, inf)},
		{similar(complex(inf, 1), 0), 1 + 1i, complex(inf, inf)},
		{similar(complex(inf, inf), 0), 1 + 1i, complex(nan, inf)},
		{similar(1, complex(inf, 0)), complex(7, nan), complex(nan, nan)},
		{similar(1, complex(inf, 0)), complex(7, 1), complex(inf, 1)},
		{similar(1, complex(inf, nan)), complex(7, 1), complex(inf, nan)},
		{similar(1, complex(nan, -inf)), complex(7, 1), complex(nan, -inf)},
		{similar(1, complex(inf, 0)), complex(-inf, 1), complex(nan, nan)},
		// A product that overflows is not saved by what is taken away or added later.
		{similar(complex(huge, huge), 0), 2 + 2i, complex(nan, inf)},
		{similar(2, complex(-huge, huge)), complex(huge, huge), complex(inf, inf)},
		{similar(1, complex(-huge, huge)), complex(huge, -huge), 0},
		{similar(complex(tiny, 0), 0), 0.5 + 0.75i, complex(0, tiny)},
		// The first product of each part loses its last digit, which would be seen if it were joined with what follows: 1, and 2^28.
		{similar(complex(1<<27+1, 1), 0), complex(1<<27+1, 0x1p54+0x1p28), complex(0, 0x1p81+3*0x1p54)},
	} {
		if got := Apply(c.m, c.z); !likeBoth(got, c.want) {
			t.Errorf("Apply(%v, %v): %v, want %v", c.m, c.z, got, c.want)
		}
	}
}

// P8.1
func TestThen(t *testing.T) {
	next := numbers(2)
	joined := 0
	for i := range 20000 {
		m, n := similar(next(i), next(i)), similar(next(i), next(i))
		want := similar(wordTimes(n.A, m.A), wordPlus(wordTimes(n.A, m.B), n.B))
		if got := Then(m, n); !likeAll(got, want) {
			t.Errorf("Then(%v, %v): %v, want %v", m, n, got, want)
		}
		if joinsTimes(n.A, m.A) && joinsTimes(n.A, m.B) {
			joined++
		}
	}
	if joined < 100 {
		t.Errorf("only %d of these would show that two operations were joined", joined)
	}
}

// P8.1
func TestThenByHand(t *testing.T) {
	for _, c := range []struct{ m, n, want api.Similar }{
		{similar(2, 1), similar(1i, 0), similar(2i, 1i)},
		// The other way round it is another one.
		{similar(1i, 0), similar(2, 1), similar(2i, 1)},
		{similar(1+2i, 3), similar(2-1i, 5i), similar(4+3i, 6+2i)},
		{similar(0, 7), similar(3, 1), similar(0, 22)},
		{similar(1e200, 1), similar(1e200, 0), similar(complex(inf, 0), 1e200)},
		{similar(complex(inf, 0), 0), similar(0, 1), similar(complex(nan, nan), 1)},
	} {
		if got := Then(c.m, c.n); !likeAll(got, c.want) {
			t.Errorf("Then(%v, %v): %v, want %v", c.m, c.n, got, c.want)
		}
	}
}

// backWords is P8.2 by its words.
func backWords(m api.Similar) (api.Similar, api.Errno) {
	d := wordSquare(m.A)
	if !areFinite(m.A) || !areFinite(m.B) || d == 0 || math.IsInf(d, 0) {
		return api.Similar{}, api.ErrFlat
	}
	a := wordBy(1, m.A)
	return similar(a, wordMinus(0, wordTimes(a, m.B))), api.OK
}

// P8.2
func TestBack(t *testing.T) {
	next := numbers(4)
	joined, quotient := 0, 0
	var seen [2]int
	for i := range 30000 {
		m := similar(next(i), next(i))
		want, e := backWords(m)
		if got, f := Back(m); f != e || !likeAll(got, want) || e != api.OK && got != (api.Similar{}) {
			t.Errorf("Back(%v): %v, %v, want %v, %v", m, got, f, want, e)
		}
		if e != api.OK {
			seen[1]++
			continue
		}
		seen[0]++
		p, q := real(m.A), imag(m.A)
		if joins(p, p, q, q) && joinsTimes(want.A, m.B) {
			joined++
		}
		if !likeBoth(1/m.A, want.A) {
			quotient++
		}
	}
	if joined < 100 || quotient < 100 || min(seen[0], seen[1]) < 1000 {
		t.Errorf("%d would show that two operations were joined, %d that it is the language's quotient, %v are right and flat", joined, quotient, seen)
	}
}

// P8.2
func TestBackAtEdges(t *testing.T) {
	next := numbers(5)
	list := edges()
	for _, x := range list {
		for _, y := range list {
			for _, m := range []api.Similar{similar(complex(x, y), next(0)), similar(complex(x, y), 4-1i), similar(1+2i, complex(x, y))} {
				want, e := backWords(m)
				if got, f := Back(m); f != e || !likeAll(got, want) {
					t.Errorf("Back(%v): %v, %v, want %v, %v", m, got, f, want, e)
				}
			}
		}
	}
}

// P8.2
func TestBackByHand(t *testing.T) {
	below := math.Nextafter(0x1p512, 0)
	for _, c := range []struct {
		m, want api.Similar
	}{
		{similar(2i, 4), similar(-0.5i, 2i)},
		{similar(1, 0), similar(1, 0)},
		{similar(1, 5-7i), similar(1, -5+7i)},
		{similar(-1, 3i), similar(-1, 3i)},
		{similar(1+1i, 2), similar(0.5-0.5i, -1+1i)},
		{similar(0.5, 1), similar(2, -2)},
		{similar(3+4i, 25), similar(0.12-0.16i, -3+4i)},
		// The least square that is not 0, and a great one that is finite.
		{similar(0x1p-537, 0), similar(0x1p537, 0)},
		{similar(0x1p-537i, 1), similar(-0x1p537i, 0x1p537i)},
		{similar(0x1.6a09e667f3bcdp-538, 0), similar(0x1.6a09e667f3bcdp536, 0)},
		{similar(complex(below, 0), 0), similar(complex(below/0x1.ffffffffffffep1023, 0), 0)},
		{similar(0x1p511+0x1p511i, 0), similar(0x1p-512-0x1p-512i, 0)},
		// What comes out may be more than a float64 holds: it is told so.
		{similar(0x1p-537, 1e300), similar(0x1p537, complex(-inf, 0))},
		{similar(0x1p-537, complex(huge, -huge)), similar(0x1p537, complex(-inf, inf))},
	} {
		if got, e := Back(c.m); e != api.OK || !likeAll(got, c.want) {
			t.Errorf("Back(%v): %v, %v, want %v", c.m, got, e, c.want)
		}
	}
}

// P8.2
func TestBackOfWhatIsFlat(t *testing.T) {
	for _, a := range []complex128{
		0, complex(nought, 0), complex(0, nought), complex(nought, nought),
		tiny, complex(0, -tiny), complex(tiny, tiny), 1e-200, 0x1p-538, 0x1.6a09e667f3bccp-538, complex(0x1p-538, 0x1p-538), complex(-0x1p-538, 0x1.6a09e667f3bccp-538),
		1e200, -1e200, 1e200i, 0x1p512, -0x1p512i, complex(huge, 0), complex(huge, -huge), complex(0x1p511, 0x1p512), complex(math.Nextafter(0x1p512, 0), 0x1p511),
	} {
		wantFlat(t, similar(a, 0), similar(a, 3-4i), similar(a, complex(nan, inf)))
	}
	for _, x := range []float64{inf, -inf, nan} {
		for _, y := range edges() {
			for _, z := range []complex128{complex(x, y), complex(y, x)} {
				wantFlat(t, similar(z, 0), similar(z, 3-4i), similar(1, z), similar(-2i, z), similar(0, z), similar(z, z))
			}
		}
	}
}

func wantFlat(t *testing.T, list ...api.Similar) {
	t.Helper()
	for _, m := range list {
		if got, e := Back(m); e != api.ErrFlat || got != (api.Similar{}) {
			t.Errorf("Back(%v): %v, %v", m, got, e)
		}
	}
}

// P8.3
func TestFit(t *testing.T) {
	var joined [3]int
	quotient, flat := 0, 0
	for _, x := range quads() {
		p, q, r, s := x[0], x[1], x[2], x[3]
		got, e := Fit(p, q, r, s)
		if p.X == q.X && p.Y == q.Y {
			flat++
			if e != api.ErrFlat || got != (api.Similar{}) {
				t.Errorf("Fit(%v): %v, %v", x, got, e)
			}
			continue
		}
		over, under := gone(r, s), gone(p, q)
		a := wordBy(over, under)
		want := similar(a, wordMinus(pointed(r), wordTimes(a, pointed(p))))
		if e != api.OK || !likeAll(got, want) {
			t.Errorf("Fit(%v): %v, %v, want %v", x, got, e, want)
		}
		for i, is := range []bool{joinsBy(over, under), joins(real(under), real(under), imag(under), imag(under)), joinsTimes(a, pointed(p))} {
			if is {
				joined[i]++
			}
		}
		if !likeBoth(over/under, a) {
			quotient++
		}
	}
	if slices.Min(joined[:]) < 100 || quotient < 100 || flat < 100 {
		t.Errorf("%v would show that two operations were joined, %d that it is the language's quotient, %d are flat", joined, quotient, flat)
	}
}

// P8.3
func TestFitByHand(t *testing.T) {
	for _, c := range []struct {
		p, q, r, s api.Point
		want       api.Similar
	}{
		{at(0, 0), at(2, 0), at(1, 1), at(1, 5), similar(2i, 1+1i)},
		{at(0, 0), at(1, 0), at(0, 0), at(1, 0), similar(1, 0)},
		{at(1, 1), at(3, 1), at(0, 0), at(1, 0), similar(0.5, -0.5-0.5i)},
		{at(0, 0), at(1, 1), at(4, 4), at(4, 2), similar(-1-1i, 4+4i)},
		// Two points that come to one.
		{at(3, 4), at(5, 6), at(7, 8), at(7, 8), similar(0, 7+8i)},
		// The differences are more than 32 bits hold.
		{at(least, 0), at(greatest, 0), at(0, least), at(0, greatest), similar(1i, 0)},
		{at(least, least), at(greatest, least), at(greatest, greatest), at(least, greatest), similar(-1, -1-1i)},
		{at(0, greatest), at(0, least), at(0, 0), at(1, 0), similar(complex(0, 1.0/4294967295), 2147483647.0/4294967295)},
	} {
		if got, e := Fit(c.p, c.q, c.r, c.s); e != api.OK || !likeAll(got, c.want) {
			t.Errorf("Fit(%v, %v, %v, %v): %v, %v, want %v", c.p, c.q, c.r, c.s, got, e, c.want)
		}
	}
}

// P8.3
func TestFitOfOnePoint(t *testing.T) {
	list := ends()
	for i, p := range list {
		r, s := list[(i*7+5)%len(list)], list[(i*11+2)%len(list)]
		for _, x := range [][2]api.Point{{r, s}, {r, r}, {p, p}, {at(0, 0), at(1, 0)}} {
			if got, e := Fit(p, p, x[0], x[1]); e != api.ErrFlat || got != (api.Similar{}) {
				t.Errorf("Fit(%v, %v, %v): %v, %v", p, p, x, got, e)
			}
		}
	}
}

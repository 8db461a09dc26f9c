package turn

import (
	"math"
	"math/rand"
	"testing"

	"paddock/api"
)

// onLattice is the whole number nearest to x, by the words of layer 2: with what is wrong with it.
func onLattice(x float64) (int32, api.Errno) {
	if math.IsNaN(x) {
		return 0, api.ErrNaN
	}
	if math.Abs(x) > 0x1p40 {
		return 0, api.ErrRange
	}
	n := math.Floor(x)
	if over := x - n; over > 0.5 || over == 0.5 && math.Mod(n, 2) != 0 {
		n++
	}
	if n < -bound || n > bound {
		return 0, api.ErrRange
	}
	return int32(n), api.OK
}

// placeWords is P8.4 by its words.
func placeWords(m api.Similar, p api.Point) (api.Point, api.Errno) {
	z := wordPlus(wordTimes(m.A, pointed(p)), m.B)
	x, e := onLattice(real(z))
	y, f := onLattice(imag(z))
	if e == api.OK {
		e = f
	}
	if e != api.OK {
		return api.Point{}, e
	}
	return at(x, y), api.OK
}

// P8.4
func TestPlace(t *testing.T) {
	r, next := rand.New(rand.NewSource(6)), numbers(6)
	list := ends()
	seen := map[api.Errno]int{}
	for i := range 20000 {
		m := similar(next(0), next(0))
		switch i % 4 {
		case 1:
			m = similar(complex(float64(r.Intn(9)-4)/4, float64(r.Intn(9)-4)/4), complex(float64(r.Intn(99))/4, float64(r.Intn(99))/-4))
		case 2:
			m.A = complex(r.Float64()-0.5, r.Float64()-0.5)
		case 3:
			m = similar(complex(r.Float64()-0.5, r.Float64()-0.5), complex(math.Ldexp(r.Float64()-0.5, 29), math.Ldexp(r.Float64()-0.5, 29)))
		}
		for _, p := range []api.Point{anywhere(r), list[r.Intn(len(list))]} {
			want, e := placeWords(m, p)
			seen[e]++
			if got, f := Place(m, p); got != want || f != e {
				t.Errorf("Place(%v, %v): %v, %v, want %v, %v", m, p, got, f, want, e)
			}
		}
	}
	if min(seen[api.OK], seen[api.ErrNaN], seen[api.ErrRange]) < 200 {
		t.Errorf("not all answers are asked for: %v", seen)
	}
}

// P8.4
func TestPlaceByHand(t *testing.T) {
	for _, c := range []struct {
		m    api.Similar
		p    api.Point
		want api.Point
		e    api.Errno
	}{
		{similar(0.5, 0), at(3, 5), at(2, 2), api.OK},
		{similar(1, 1e10), at(0, 0), at(0, 0), api.ErrRange},
		{similar(complex(nan, 0), 0), at(1, 1), at(0, 0), api.ErrNaN},
		{Unit(), at(-7, 9), at(-7, 9), api.OK},
		{similar(1i, 1), at(2, 3), at(-2, 2), api.OK},
		// Halfway the even one, in either part.
		{similar(0.5, 0), at(1, -1), at(0, 0), api.OK},
		{similar(0.5, 0), at(-3, 7), at(-2, 4), api.OK},
		{similar(0.5i, 0), at(5, 3), at(-2, 2), api.OK},
		{similar(1, 0.5+1.5i), at(2, 2), at(2, 4), api.OK},
		{similar(1, complex(math.Nextafter(0.5, 1), math.Nextafter(0.5, 0))), at(0, 0), at(1, 0), api.OK},
		// The lattice's ends, and what rounds onto them, or beyond.
		{Unit(), at(bound, -bound), at(bound, -bound), api.OK},
		{similar(-1, 0), at(bound, -bound), at(-bound, bound), api.OK},
		{Unit(), at(bound+1, 0), at(0, 0), api.ErrRange},
		{Unit(), at(0, -bound-1), at(0, 0), api.ErrRange},
		{Unit(), at(greatest, least), at(0, 0), api.ErrRange},
		{similar(1, 0.25-0.25i), at(bound, -bound), at(bound, -bound), api.OK},
		{similar(1, 0.5), at(bound, 7), at(0, 0), api.ErrRange},
		{similar(1, -0.5i), at(7, -bound), at(0, 0), api.ErrRange},
		{similar(1, -0.5+0.5i), at(bound, -bound), at(bound-1, 1-bound), api.OK},
		// A point that is not on the lattice may come onto it.
		{similar(0.25, 0), at(greatest, least), at(1<<29, -1<<29), api.OK},
		{similar(0.5, 0), at(greatest-1, 1-greatest), at(bound, -bound), api.OK},
		{similar(0.5, 0), at(greatest, 0), at(0, 0), api.ErrRange},
		{similar(0.5, 0), at(0, least), at(0, 0), api.ErrRange},
		{similar(0, 3+4i), at(least, greatest), at(3, 4), api.OK},
		// Of two parts that are wrong the real one's fault is told.
		{similar(1, complex(1e10, nan)), at(0, 0), at(0, 0), api.ErrRange},
		{similar(1, complex(nan, 1e10)), at(0, 0), at(0, 0), api.ErrNaN},
		{similar(1, complex(5, nan)), at(1, 1), at(0, 0), api.ErrNaN},
		{similar(1, complex(nan, 5)), at(1, 1), at(0, 0), api.ErrNaN},
		{similar(1, complex(5, 1e10)), at(1, 1), at(0, 0), api.ErrRange},
		{similar(1, complex(inf, 0)), at(1, 1), at(0, 0), api.ErrRange},
		{similar(1, complex(0, -inf)), at(1, 1), at(0, 0), api.ErrRange},
		{similar(1, complex(-inf, nan)), at(1, 1), at(0, 0), api.ErrRange},
		{similar(1, complex(0, nan)), at(bound+1, 1), at(0, 0), api.ErrRange},
		// What is infinite, times a nought, is NaN.
		{similar(complex(inf, 0), 0), at(1, 1), at(0, 0), api.ErrRange},
		{similar(complex(inf, 0), 0), at(1, 0), at(0, 0), api.ErrRange},
		{similar(complex(inf, 0), 0), at(0, 1), at(0, 0), api.ErrNaN},
		{similar(complex(inf, 0), 0), at(0, 0), at(0, 0), api.ErrNaN},
		{similar(complex(inf, 1), 0), at(1, 1), at(0, 0), api.ErrRange},
		{similar(complex(1, nan), 0), at(1, 0), at(0, 0), api.ErrNaN},
		{similar(complex(huge, 0), 0), at(2, 2), at(0, 0), api.ErrRange},
		{similar(complex(nought, 0), complex(nought, nought)), at(-1, 5), at(0, 0), api.OK},
		{similar(tiny, 0), at(greatest, least), at(0, 0), api.OK},
	} {
		if got, e := Place(c.m, c.p); got != c.want || e != c.e {
			t.Errorf("Place(%v, %v): %v, %v, want %v, %v", c.m, c.p, got, e, c.want, c.e)
		}
	}
}

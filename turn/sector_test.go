package turn

import (
	"math"
	"slices"
	"testing"

	"paddock/api"
)

// sectors are the sectors in which the chapter's words place a number, each asked by itself.
func sectors(h complex128) []int8 {
	x, y := real(h), imag(h)
	if h == 0 || x != x || y != y {
		return []int8{-1}
	}
	wide, high := math.Abs(x), math.Abs(y)
	var list []int8
	for s, is := range []bool{
		x > 0 && y >= 0 && high < wide,
		x > 0 && high >= wide && y > 0,
		x <= 0 && y > 0 && wide < high,
		x < 0 && y > 0 && wide >= high,
		x < 0 && y <= 0 && high < wide,
		x < 0 && y < 0 && high >= wide,
		x >= 0 && y < 0 && wide < high,
		x > 0 && y < 0 && wide >= high,
	} {
		if is {
			list = append(list, int8(s))
		}
	}
	return list
}

// headings are numbers in all sectors, on all borders and next to them, with parts of all kinds.
func headings() []complex128 {
	var list []complex128
	parts := edges()
	for _, x := range parts {
		for _, y := range parts {
			list = append(list, complex(x, y))
		}
		for _, y := range []float64{x, math.Nextafter(x, inf), math.Nextafter(x, -inf), tiny, nought} {
			list = append(list, complex(x, y), complex(x, -y), complex(-x, y), complex(-x, -y), complex(y, x), complex(-y, x), complex(y, -x), complex(-y, -x))
		}
	}
	next := numbers(9)
	for range 10000 {
		list = append(list, next(0))
	}
	return list
}

// P8.6
func TestSector(t *testing.T) {
	seen := map[int8]int{}
	for _, h := range headings() {
		want := sectors(h)
		if len(want) != 1 {
			t.Fatalf("the words place %v in %v", h, want)
		}
		seen[want[0]]++
		if got := Sector(h); got != want[0] {
			t.Errorf("Sector(%v): %d, want %d", h, got, want[0])
		}
	}
	for s := int8(-1); s < 8; s++ {
		if seen[s] < 100 {
			t.Errorf("not all sectors are asked for: %v", seen)
		}
	}
}

// P8.6
func TestSectorByHand(t *testing.T) {
	above, below := math.Nextafter(1, 2), math.Nextafter(1, 0)
	for _, c := range []struct {
		h    complex128
		want int8
	}{
		{1, 0}, {1 + 1i, 1}, {1i, 2}, {-1 + 1i, 3}, {-1, 4}, {-1 - 1i, 5}, {-1i, 6}, {1 - 1i, 7},
		{2 + 1i, 0}, {1 + 2i, 1}, {-1 + 2i, 2}, {-2 + 1i, 3}, {-2 - 1i, 4}, {-1 - 2i, 5}, {1 - 2i, 6}, {2 - 1i, 7},
		// Next to the borders, on either side.
		{complex(1, -tiny), 7}, {complex(1, tiny), 0}, {complex(1, below), 0}, {complex(below, 1), 1}, {complex(1, above), 1}, {complex(above, 1), 0},
		{complex(tiny, 1), 1}, {complex(-tiny, 1), 2}, {complex(-below, 1), 2}, {complex(-1, below), 3}, {complex(-1, above), 2},
		{complex(-1, tiny), 3}, {complex(-1, -tiny), 4}, {complex(-1, -below), 4}, {complex(-below, -1), 5}, {complex(-above, -1), 4},
		{complex(-tiny, -1), 5}, {complex(tiny, -1), 6}, {complex(below, -1), 6}, {complex(1, -below), 7}, {complex(1, -above), 6},
		// Noughts with either sign.
		{0, -1}, {complex(nought, 0), -1}, {complex(0, nought), -1}, {complex(nought, nought), -1},
		{complex(1, nought), 0}, {complex(nought, 1), 2}, {complex(-1, nought), 4}, {complex(nought, -1), 6},
		// What is infinite, and what is no number.
		{complex(inf, 0), 0}, {complex(inf, huge), 0}, {complex(inf, inf), 1}, {complex(1, inf), 1}, {complex(0, inf), 2}, {complex(nought, inf), 2}, {complex(-1, inf), 2}, {complex(-inf, inf), 3}, {complex(-inf, 1), 3},
		{complex(-inf, 0), 4}, {complex(-inf, nought), 4}, {complex(-inf, -inf), 5}, {complex(-1, -inf), 5}, {complex(0, -inf), 6}, {complex(1, -inf), 6}, {complex(inf, -inf), 7}, {complex(inf, -1), 7},
		{complex(nan, 0), -1}, {complex(0, nan), -1}, {complex(nan, 1), -1}, {complex(1, nan), -1}, {complex(-1, nan), -1}, {complex(nan, -1), -1}, {complex(nan, nan), -1}, {complex(inf, nan), -1}, {complex(nan, -inf), -1},
		{complex(tiny, tiny), 1}, {complex(-tiny, 0), 4}, {complex(huge, -huge), 7}, {complex(huge, tiny), 0}, {complex(-tiny, -huge), 5},
	} {
		if got := Sector(c.h); got != c.want {
			t.Errorf("Sector(%v): %d, want %d", c.h, got, c.want)
		}
	}
}

// P8.7
func TestSectorOfAQuarterTurn(t *testing.T) {
	all := []int8{0, 1, 2, 3, 4, 5, 6, 7}
	for _, h := range headings() {
		x, y := real(h), imag(h)
		if h == 0 || math.IsNaN(x) || math.IsNaN(y) {
			continue
		}
		s := Sector(h)
		if !slices.Contains(all, s) || Sector(complex(-y, x)) != (s+2)%8 {
			t.Errorf("%v is in the sector %d, turned by a quarter in %d", h, s, Sector(complex(-y, x)))
		}
		// The product turns it as well, where a nought does not meet what is infinite.
		if z := Apply(similar(1i, 0), h); areFinite(h) && Sector(z) != (s+2)%8 {
			t.Errorf("%v is in the sector %d, turned to %v in %d", h, s, z, Sector(z))
		}
	}
}

// P8.6
func TestSame(t *testing.T) {
	parts := []float64{0, nought, 1, math.Nextafter(1, 2), -1, tiny, -tiny, huge, inf, -inf, nan, -nan}
	for place := range 4 {
		for _, a := range parts {
			for _, b := range parts {
				for _, rest := range parts {
					m, n := [4]float64{rest, rest, rest, rest}, [4]float64{rest, rest, rest, rest}
					m[place], n[place] = a, b
					if got := Same(four(m), four(n)); got != like(a, b) {
						t.Errorf("Same(%v, %v): %v", four(m), four(n), got)
					}
				}
			}
		}
	}
}

// four is a similarity of four parts.
func four(x [4]float64) api.Similar { return similar(complex(x[0], x[1]), complex(x[2], x[3])) }

// P8.6
func TestSameByHand(t *testing.T) {
	for _, c := range []struct {
		m, n api.Similar
		want bool
	}{
		{Unit(), similar(1, 0), true},
		{similar(complex(nan, 0), 0), similar(complex(nan, 0), 0), true},
		{similar(complex(nan, 0), 0), similar(complex(0, nan), 0), false},
		{similar(complex(nan, nan), complex(nan, nan)), similar(complex(nan, nan), complex(nan, nan)), true},
		{similar(complex(nought, 1), 0), similar(1i, complex(0, nought)), true},
		{similar(complex(inf, 0), 0), similar(complex(-inf, 0), 0), false},
		{similar(1, 2), similar(2, 1), false},
		{similar(1, 2+1i), similar(1, 2-1i), false},
		{api.Similar{}, Unit(), false},
	} {
		if Same(c.m, c.n) != c.want || Same(c.n, c.m) != c.want {
			t.Errorf("Same(%v, %v): not %v", c.m, c.n, c.want)
		}
	}
}

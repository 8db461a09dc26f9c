package turn

import (
	"math/big"
	"math/rand"
	"slices"
	"testing"

	"paddock/api"
)

// pairs are two points each: all of the ends, some of anywhere, and some that lie apart along the plane's axes and halfway between them, or next to that; the same in each run.
func pairs() [][2]api.Point {
	r, list := rand.New(rand.NewSource(7)), ends()
	var all [][2]api.Point
	for _, p := range list {
		for _, q := range list {
			all = append(all, [2]api.Point{p, q})
		}
	}
	for range 4000 {
		p := anywhere(r)
		all = append(all, [2]api.Point{p, anywhere(r)}, [2]api.Point{p, p}, [2]api.Point{p, at(p.X, anywhere(r).Y)}, [2]api.Point{p, at(anywhere(r).X, p.Y)})
	}
	for _, n := range []int32{1, 2, 3, 1000, 1 << 29, bound, greatest - 1} {
		for dx := int32(-1); dx <= 1; dx++ {
			for _, x := range []int32{n, -n} {
				for _, y := range []int32{n, -n} {
					all = append(all, [2]api.Point{at(0, 0), at(x+dx, y)}, [2]api.Point{at(0, 0), at(x, y+dx)}, [2]api.Point{at(-x, -y), at(x+dx, y)}, [2]api.Point{at(-x, -y), at(x, y+dx)})
				}
			}
		}
	}
	return all
}

// P8.5
func TestHeading(t *testing.T) {
	joined := 0
	for _, x := range pairs() {
		p, q := x[0], x[1]
		d := gone(p, q)
		length := root(wordSquare(d))
		want := complex128(0)
		if d != 0 {
			want = complex(quo(real(d), length), quo(imag(d), length))
		}
		if got := Heading(p, q); !likeBoth(got, want) {
			t.Errorf("Heading(%v, %v): %v, want %v", p, q, got, want)
		}
		if joins(real(d), real(d), imag(d), imag(d)) {
			joined++
		}
	}
	if joined < 100 {
		t.Errorf("only %d of these would show that two operations were joined", joined)
	}
}

// P8.5
func TestHeadingByHand(t *testing.T) {
	for _, c := range []struct {
		p, q api.Point
		want complex128
	}{
		{at(0, 0), at(3, -4), 0.6 - 0.8i},
		{at(3, -4), at(0, 0), -0.6 + 0.8i},
		{at(10, 10), at(15, 22), complex(5.0/13, 12.0/13)},
		{at(0, 0), at(7, 0), 1},
		{at(0, 0), at(0, -7), -1i},
		{at(5, 5), at(4, 5), -1},
		{at(5, 5), at(5, 6), 1i},
		{at(7, 7), at(7, 7), 0},
		{at(0, 0), at(0, 0), 0},
		{at(least, greatest), at(least, greatest), 0},
		// The differences are more than 32 bits hold.
		{at(least, 0), at(greatest, 0), 1},
		{at(greatest, 0), at(least, 0), -1},
		{at(0, greatest), at(0, least), -1i},
		{at(0, least), at(0, greatest), 1i},
		{at(0, 0), at(1, 1), 0.7071067811865475 + 0.7071067811865475i},
		{at(least, greatest), at(greatest, least), 0.7071067811865476 - 0.7071067811865476i},
	} {
		if got := Heading(c.p, c.q); !likeBoth(got, c.want) {
			t.Errorf("Heading(%v, %v): %v, want %v", c.p, c.q, got, c.want)
		}
	}
}

// P8.10
func TestHeadingPointsThere(t *testing.T) {
	near := new(big.Rat).SetFrac64(1, 1<<48)
	var seen [8]int
	for _, x := range pairs() {
		if x[0] == x[1] {
			continue
		}
		h, d := Heading(x[0], x[1]), gone(x[0], x[1])
		if s := Sector(h); s != Sector(d) || s < 0 {
			t.Errorf("the heading from %v to %v, %v, points into the sector %d, and not %d", x[0], x[1], h, s, Sector(d))
		} else {
			seen[s]++
		}
		// As it is exactly, and as it is reckoned.
		u, v := exact(real(h)), exact(imag(h))
		whole := new(big.Rat).Add(u.Mul(u, u), v.Mul(v, v))
		for _, square := range []*big.Rat{whole, exact(wordSquare(h))} {
			if off := square.Sub(square, big.NewRat(1, 1)); off.Abs(off).Cmp(near) > 0 {
				t.Errorf("the heading from %v to %v, %v, is too long or too short by %v", x[0], x[1], h, off)
			}
		}
	}
	if slices.Min(seen[:]) < 100 {
		t.Errorf("not all sectors are asked for: %v", seen)
	}
}

// meanWords is P8.5 by its words.
func meanWords(hs []complex128) complex128 {
	sum := complex128(0)
	for _, h := range hs {
		sum = wordPlus(sum, h)
	}
	if sum == 0 || !areFinite(sum) {
		return 0
	}
	length := root(wordSquare(sum))
	return complex(quo(real(sum), length), quo(imag(sum), length))
}

// P8.5
func TestMean(t *testing.T) {
	r, next := rand.New(rand.NewSource(8)), numbers(8)
	joined, ordered, none := 0, 0, 0
	for i := range 20000 {
		var hs []complex128
		for range r.Intn(6) {
			hs = append(hs, next(i))
		}
		want := meanWords(hs)
		if got := Mean(hs...); !likeBoth(got, want) {
			t.Errorf("Mean(%v): %v, want %v", hs, got, want)
		}
		if want == 0 {
			none++
			continue
		}
		if len(hs) == 1 && joins(real(hs[0]), real(hs[0]), imag(hs[0]), imag(hs[0])) {
			joined++
		}
		back := slices.Clone(hs)
		slices.Reverse(back)
		if !likeBoth(meanWords(back), want) {
			ordered++
		}
	}
	if min(joined, ordered, none) < 100 {
		t.Errorf("%d would show that two operations were joined, %d that they are added in another order, %d have none", joined, ordered, none)
	}
}

// P8.5
func TestMeanByHand(t *testing.T) {
	diagonal := 0.7071067811865475
	for _, c := range []struct {
		hs   []complex128
		want complex128
	}{
		{nil, 0}, {[]complex128{}, 0},
		{[]complex128{1, 1i}, complex(diagonal, diagonal)},
		{[]complex128{1, -1}, 0}, {[]complex128{1i, 1, -1i, -1}, 0}, {[]complex128{0}, 0}, {[]complex128{complex(nought, nought)}, 0},
		{[]complex128{3 - 4i}, 0.6 - 0.8i}, {[]complex128{-7}, -1}, {[]complex128{0, 0.25i}, 1i}, {[]complex128{1, 1, 1, -4i, 0}, 0.6 - 0.8i},
		// In order: what is too small to be seen is lost on the way.
		{[]complex128{1e16, 1i, 1, -1e16}, 1i}, {[]complex128{1e16, -1e16, 1i, 1}, complex(diagonal, diagonal)}, {[]complex128{1, 1e16, -1e16}, 0},
		// Sums that are not finite, one that was not on the way among them.
		{[]complex128{complex(inf, 0)}, 0}, {[]complex128{complex(1, -inf)}, 0}, {[]complex128{complex(nan, 1)}, 0}, {[]complex128{complex(1, nan)}, 0},
		{[]complex128{complex(inf, 1), complex(-inf, 1)}, 0}, {[]complex128{1, complex(0, inf), 1}, 0}, {[]complex128{huge, huge}, 0}, {[]complex128{huge, huge, -huge}, 0},
		{[]complex128{huge, -huge, 1i}, 1i}, {[]complex128{complex(1, huge), complex(0, huge)}, 0},
		// A square that is 0 or infinite, though the sum is neither.
		{[]complex128{1e200}, 0}, {[]complex128{complex(-1e200, 1)}, 0}, {[]complex128{complex(huge, huge)}, 0},
		{[]complex128{1e-200}, complex(inf, nan)}, {[]complex128{-1e-200i}, complex(nan, -inf)}, {[]complex128{complex(-tiny, tiny)}, complex(-inf, inf)},
		{[]complex128{0x1p-537}, 1}, {[]complex128{complex(0, -0x1p511)}, -1i}, {[]complex128{0x1p-538}, complex(inf, nan)},
	} {
		if got := Mean(c.hs...); !likeBoth(got, c.want) {
			t.Errorf("Mean(%v): %v, want %v", c.hs, got, c.want)
		}
	}
}

// P8.5, P0.1: what is handed in is not changed, spare room included.
func TestMeanLeavesItsList(t *testing.T) {
	room := []complex128{3, 1e16i, -1, 4, 5i}
	before := slices.Clone(room)
	Mean(room[:3]...)
	if !slices.Equal(room, before) {
		t.Errorf("%v became %v", before, room)
	}
}

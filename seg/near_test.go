package seg

import (
	"math"
	"math/big"
	"testing"

	"paddock/api"
)

// isFoot is P5.2 by what makes a place the nearest one: from it, neither end lies on p's side. And the fraction is in its form.
func isFoot(f api.Frac, p, a, b api.Point) bool {
	if a == b {
		return f == frac(0, 1)
	}
	if f.Den <= 0 || f.Num < 0 || f.Num > f.Den || f != toFrac(big.NewRat(f.Num, f.Den)) {
		return false
	}
	x := between(vecOf(a), vecOf(b), big.NewRat(f.Num, f.Den))
	away := vecOf(p).minus(x)
	return away.dot(vecOf(a).minus(x)).Sign() <= 0 && away.dot(vecOf(b).minus(x)).Sign() <= 0
}

// P5.2
func TestFoot(t *testing.T) {
	first, last, inside := 0, 0, 0
	for _, q := range quads() {
		got := Foot(q[0], q[1], q[2])
		if !isFoot(got, q[0], q[1], q[2]) {
			t.Errorf("Foot(%v, %v, %v): %v", q[0], q[1], q[2], got)
		}
		switch {
		case got == frac(0, 1):
			first++
		case got == frac(1, 1):
			last++
		default:
			inside++
		}
	}
	if first == 0 || last == 0 || inside == 0 {
		t.Error("these do not have all kinds of feet")
	}
}

// P5.2
func TestFootByHand(t *testing.T) {
	for _, x := range []struct {
		p, a, b api.Point
		want    api.Frac
	}{
		{at(1, 5), at(0, 0), at(4, 0), frac(1, 4)},
		{at(9, 9), at(0, 0), at(4, 0), frac(1, 1)},
		{at(-9, 9), at(0, 0), at(4, 0), frac(0, 1)},
		{at(0, 7), at(0, 0), at(4, 0), frac(0, 1)},
		{at(4, -7), at(0, 0), at(4, 0), frac(1, 1)},
		{at(2, -7), at(0, 0), at(4, 0), frac(1, 2)},
		{at(3, 5), at(4, 0), at(0, 0), frac(1, 4)},
		{at(1, 0), at(0, 0), at(1, 1), frac(1, 2)},
		{at(1, 0), at(0, 0), at(1, 2), frac(1, 5)},
		{at(2, 2), at(0, 0), at(6, 6), frac(1, 3)},
		{at(1, 1), at(1, 1), at(1, 1), frac(0, 1)},
		{at(5, 7), at(1, 1), at(1, 1), frac(0, 1)},
		{at(-edge, edge), at(edge, edge), at(edge, edge), frac(0, 1)},
		// The greatest numbers.
		{at(-edge, edge), at(-edge, -edge), at(edge, edge), frac(1, 2)},
		{at(edge, edge), at(-edge, -edge), at(edge, edge), frac(1, 1)},
		{at(-edge, -edge), at(0, 0), at(edge, edge), frac(0, 1)},
		{at(edge, edge), at(-edge, -edge), at(0, 0), frac(1, 1)},
		{at(edge-1, edge), at(-edge, -edge), at(edge, edge), frac(4294967291, 4294967292)},
		{at(0, 0), at(-edge, -edge), at(edge-1, edge), frac(4611686008763711493, 9223372015379939341)},
	} {
		if got := Foot(x.p, x.a, x.b); got != x.want {
			t.Errorf("%v: %v", x, got)
		}
	}
}

// P5.3
func TestNear(t *testing.T) {
	for _, q := range quads() {
		least := reaching(distance2(vecOf(q[0]), vecOf(q[1]), vecOf(q[2])))
		for _, r := range radii(least) {
			if got := Near(q[0], q[1], q[2], r); got != (r >= least) {
				t.Errorf("Near(%v, %v, %v, %d): %v", q[0], q[1], q[2], r, got)
			}
		}
	}
}

// P5.3
func TestNearSeg(t *testing.T) {
	met := 0
	for _, q := range quads() {
		least := reaching(q.distance2())
		if least == 0 {
			met++
		}
		for _, r := range radii(least) {
			if got := NearSeg(q[0], q[1], q[2], q[3], r); got != (r >= least) {
				t.Errorf("NearSeg of %v, %d: %v", q, r, got)
			}
		}
	}
	if met == 0 || met == len(quads()) {
		t.Errorf("%d meet", met)
	}
}

// P5.3: each just reaches with r, and does not with one less.
func TestNearByHand(t *testing.T) {
	for _, x := range []struct {
		p, a, b api.Point
		r       int64
	}{
		{at(0, 5), at(-3, 1), at(3, 1), 4},
		{at(5, 5), at(0, 0), at(2, 1), 5},
		{at(-3, -4), at(0, 0), at(2, 1), 5},
		{at(1, 0), at(0, 0), at(1, 1), 1},
		{at(1, 1), at(0, 0), at(2, 2), 0},
		{at(2, 2), at(0, 0), at(2, 2), 0},
		{at(3, 3), at(0, 0), at(2, 2), 2},
		{at(1, 1), at(1, 1), at(1, 1), 0},
		{at(4, 5), at(1, 1), at(1, 1), 5},
		{at(0, 3), at(0, 0), at(9, 0), 3},
		{at(9, -3), at(0, 0), at(9, 0), 3},
		{at(1, 7), at(0, 0), at(4, 3), 5},
		// The greatest numbers: corners, and the ends of a diagonal from the other one.
		{at(edge, edge), at(-edge, -edge), at(-edge, -edge), api.FarRadius},
		{at(edge, -edge), at(-edge, edge), at(1-edge, edge), api.FarRadius - 1},
		{at(-edge, edge), at(-edge, -edge), at(edge, edge), 1518500249},
		{at(edge, edge), at(-edge, -edge), at(edge, -edge), 2 * edge},
		{at(0, edge), at(-edge, -edge), at(edge, -edge), 2 * edge},
		// Lengths L that are whole, and a distance of R - 1/L, R, R + 1/L, which a real number can't tell apart.
		{at(51868405, 359507381), at(-344503648, -600613052), at(344503649, 600613052), 133880218},
		{at(-37418112, 203843870), at(-344503648, -600613052), at(344503649, 600613052), 133880218},
		{at(-126704629, 48180359), at(-344503648, -600613052), at(344503649, 600613052), 133880219},
		{at(-298385139, 279209408), at(35573384, 891772672), at(-35573383, -891772672), 309277009},
		{at(-301503947, 201025455), at(35573384, 891772672), at(-35573383, -891772672), 309277009},
		{at(-304622755, 122841502), at(35573384, 891772672), at(-35573383, -891772672), 309277010},
	} {
		for _, r := range radii(x.r) {
			if got := Near(x.p, x.a, x.b, r); got != (r >= x.r) {
				t.Errorf("%v with %d: %v", x, r, got)
			}
		}
	}
}

// P5.3: likewise.
func TestNearSegByHand(t *testing.T) {
	for _, x := range []struct {
		a, b, c, d api.Point
		r          int64
	}{
		{at(0, 0), at(4, 0), at(2, 3), at(9, 3), 3},
		{at(0, 0), at(4, 4), at(0, 4), at(4, 0), 0},
		{at(0, 0), at(4, 4), at(4, 4), at(9, 0), 0},
		{at(0, 0), at(4, 0), at(2, 3), at(2, 9), 3},
		{at(2, 9), at(2, 3), at(0, 0), at(4, 0), 3},
		{at(0, 0), at(4, 0), at(2, -9), at(2, -3), 3},
		{at(2, -9), at(2, -3), at(4, 0), at(0, 0), 3},
		{at(0, 0), at(4, 0), at(7, 4), at(9, 9), 5},
		{at(0, 0), at(4, 0), at(6, 0), at(9, 0), 2},
		{at(0, 0), at(0, 0), at(3, 4), at(3, 4), 5},
		{at(1, 0), at(1, 0), at(0, 0), at(1, 1), 1},
		{at(0, 0), at(1, 1), at(1, 0), at(9, -8), 1},
		{at(-edge, -edge), at(-edge, -edge), at(edge, edge), at(edge, edge), api.FarRadius},
		{at(-edge, -edge), at(-edge, edge), at(edge, -edge), at(edge, edge), 2 * edge},
		{at(-edge, -edge), at(edge, edge), at(-edge, edge), at(edge, -edge), 0},
		{at(-edge, -edge), at(edge, edge), at(-edge, 1-edge), at(edge-1, edge), 1},
		{at(-edge, -edge), at(edge, -edge), at(-edge, edge), at(-1, 0), edge},
		{at(-344503648, -600613052), at(344503649, 600613052), at(-126704629, 48180359), at(-edge, edge), 133880219},
		{at(-37418112, 203843870), at(-edge, edge), at(-344503648, -600613052), at(344503649, 600613052), 133880218},
	} {
		for _, r := range radii(x.r) {
			if got := NearSeg(x.a, x.b, x.c, x.d, r); got != (r >= x.r) {
				t.Errorf("%v with %d: %v", x, r, got)
			}
		}
	}
}

// P5.2, P5.3, P0.1: one point that is not of the lattice, at any place, also on the segment itself, with any radius.
func TestNearOutside(t *testing.T) {
	for _, off := range outside() {
		for _, near := range []api.Point{off, at(0, 0), at(edge, -edge)} {
			for i := range 4 {
				q := quad{near, near, near, near}
				q[i] = off
				for _, r := range []int64{math.MinInt64, -1, 0, 1, api.FarRadius, 1 << 32, math.MaxInt64} {
					if NearSeg(q[0], q[1], q[2], q[3], r) {
						t.Errorf("NearSeg of %v, %d", q, r)
					}
					if i < 3 && Near(q[0], q[1], q[2], r) {
						t.Errorf("Near of %v, %d", q[:3], r)
					}
				}
				if got := Foot(q[0], q[1], q[2]); i < 3 && got != frac(0, 1) {
					t.Errorf("Foot of %v: %v", q[:3], got)
				}
			}
		}
	}
}

// P5.2: where the foot would be another one, were the points of the lattice.
func TestFootOutside(t *testing.T) {
	for _, x := range []quad{
		{at(edge+1, 0), at(0, 0), at(4, 0)},
		{at(1, -edge-1), at(0, 0), at(4, 0)},
		{at(3, 0), at(-edge-1, 0), at(4, 0)},
		{at(3, 0), at(0, 0), at(0, edge+1)},
		{at(edge, 0), at(0, 0), at(edge+1, 0)},
		{at(math.MaxInt32, 0), at(math.MinInt32, 0), at(math.MaxInt32, 0)},
	} {
		if got := Foot(x[0], x[1], x[2]); got != frac(0, 1) {
			t.Errorf("Foot of %v: %v", x[:3], got)
		}
	}
}

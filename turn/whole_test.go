package turn

import (
	"math/rand"
	"testing"

	"paddock/api"
)

// pair is a complex number of whole parts.
type pair struct{ x, y int64 }

func (a pair) times(b pair) pair { return pair{a.x*b.x - a.y*b.y, a.x*b.y + a.y*b.x} }

func (a pair) plus(b pair) pair { return pair{a.x + b.x, a.y + b.y} }

func (a pair) number() complex128 { return complex(float64(a.x), float64(a.y)) }

// wholes hands out pairs of a size of at most reach, those at the ends more often; the same in each run.
func wholes(seed, reach int64) func() pair {
	r := rand.New(rand.NewSource(seed))
	ends := []int64{-reach, 1 - reach, -1, 0, 1, reach - 1, reach}
	next := func() int64 {
		if r.Intn(2) == 0 {
			return ends[r.Intn(len(ends))]
		}
		return r.Int63n(2*reach+1) - reach
	}
	return func() pair { return pair{next(), next()} }
}

// P8.8
func TestWholeOnesAreExact(t *testing.T) {
	next := wholes(10, 1<<16)
	for range 50000 {
		a, b, c, d, z := next(), next(), next(), next(), next()
		m, n := similar(a.number(), b.number()), similar(c.number(), d.number())
		both := Then(m, n)
		if both != similar(c.times(a).number(), c.times(b).plus(d).number()) {
			t.Errorf("Then(%v, %v): %v", m, n, both)
		}
		once := a.times(z).plus(b)
		want := c.times(once).plus(d).number()
		if Apply(m, z.number()) != once.number() || Apply(n, once.number()) != want || Apply(both, z.number()) != want {
			t.Errorf("%v by %v and %v: not %v", z, m, n, want)
		}
		if !Same(Then(m, Unit()), m) || !Same(Then(Unit(), m), m) {
			t.Errorf("%v and Unit: %v, %v", m, Then(m, Unit()), Then(Unit(), m))
		}
	}
}

// quarters are the four turns by quarters.
func quarters() []pair { return []pair{{1, 0}, {0, 1}, {-1, 0}, {0, -1}} }

// P8.9
func TestBackOfQuarters(t *testing.T) {
	shift, place := wholes(11, 1<<30), wholes(12, bound)
	for range 20000 {
		for _, a := range quarters() {
			b, z := shift(), place()
			m := similar(a.number(), b.number())
			back, e := Back(m)
			if e != api.OK {
				t.Fatalf("Back(%v): %v", m, e)
			}
			// A quarter's inverse is itself turned over.
			over := pair{a.x, -a.y}
			if want := similar(over.number(), over.times(pair{-b.x, -b.y}).number()); back != want {
				t.Errorf("Back(%v): %v, want %v", m, back, want)
			}
			there := Apply(m, z.number())
			if there != a.times(z).plus(b).number() || Apply(back, there) != z.number() {
				t.Errorf("%v comes to %v by %v, and back to %v", z, there, m, Apply(back, there))
			}
			p := at(int32(z.x), int32(z.y))
			if q, e := Place(m, p); e == api.OK {
				if r, e := Place(back, q); r != p || e != api.OK {
					t.Errorf("%v comes to %v by %v, and back to %v, %v", p, q, m, r, e)
				}
			}
		}
	}
}

// P8.9
func TestFitOfQuarters(t *testing.T) {
	shift, place := wholes(13, 1<<30), wholes(14, bound)
	for i := range 40000 {
		a, b := quarters()[i%4], shift()
		p, q := place(), place()
		if i/4%2 == 0 {
			q.x = p.x
		} else {
			q.y = p.y
		}
		if p == q {
			continue
		}
		m := similar(a.number(), b.number())
		to := [4]api.Point{}
		for j, z := range []pair{p, q, a.times(p).plus(b), a.times(q).plus(b)} {
			to[j] = at(int32(z.x), int32(z.y))
			if (pair{int64(to[j].X), int64(to[j].Y)}) != z {
				t.Fatalf("%v has more than 32 bits", z)
			}
		}
		if got, e := Fit(to[0], to[1], to[2], to[3]); e != api.OK || got != m || !Same(got, m) {
			t.Errorf("Fit(%v): %v, %v, want %v", to, got, e, m)
		}
	}
}

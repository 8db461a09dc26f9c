package inside

import (
	"math/big"
	"math/rand"
	"slices"
	"testing"

	"paddock/api"
	"paddock/ring"
)

// P7.7
func TestWindingOfARing(t *testing.T) {
	r := rand.New(rand.NewSource(6))
	seen := map[int]int{}
	for _, v := range rings() {
		once := ring.Area2(v).Sign()
		for _, p := range append(near(r, v), grid(-1, 0, 1)...) {
			if Edge(v, p) {
				continue
			}
			n := Winding(v, p)
			seen[n]++
			if Covers(v, p) != (n != 0) || n != 0 && n != once {
				t.Errorf("%s in %s: the winding %d, and Covers %v", text(p), text(v...), n, Covers(v, p))
			}
		}
	}
	if min(seen[0], seen[1], seen[-1]) < 500 {
		t.Errorf("not all windings are asked for: %v", seen)
	}
}

// P7.8
func TestToldInAnotherWay(t *testing.T) {
	r := rand.New(rand.NewSource(7))
	for _, v := range lists() {
		for _, p := range near(r, v) {
			if len(v) > 0 {
				same(t, v, begun(v, r.Intn(len(v))), p, p, 1)
				same(t, v, turned(begun(v, r.Intn(len(v)))), p, p, -1)
			}
			same(t, v, turned(v), p, p, -1)
		}
	}
}

// same holds a ring and a point against another way to tell them, in which the ring goes round that way.
func same(t *testing.T, v, w []api.Point, p, q api.Point, way int) {
	t.Helper()
	if Edge(v, p) != Edge(w, q) || Covers(v, p) != Covers(w, q) || Winding(v, p)*way != Winding(w, q) {
		t.Errorf("%s in %s, and %s in %s", text(p), text(v...), text(q), text(w...))
	}
}

// P7.8
func TestShifted(t *testing.T) {
	r := rand.New(rand.NewSource(8))
	ways := []api.Point{at(1, 0), at(0, -1), at(12345, -54321), at(bound, bound), at(-bound-1, bound+1), at(greatest-bound, least+bound), at(least, least), at(greatest, greatest)}
	done := make([]int, len(ways))
	for _, v := range append(lists(), rings()...) {
		for _, p := range near(r, v) {
			n := r.Intn(len(ways))
			if w, ok := shifted(append(slices.Clone(v), p), ways[n]); ok {
				done[n]++
				w, q := w[:len(v)], w[len(v)]
				same(t, v, w, p, q, 1)
				if Crossings(v, p) != Crossings(w, q) {
					t.Errorf("%s in %s: %d crossings; shifted %d", text(p), text(v...), Crossings(v, p), Crossings(w, q))
				}
			}
		}
	}
	for n, count := range done {
		if count < 100 {
			t.Errorf("%d are shifted by %s", count, text(ways[n]))
		}
	}
}

// shifted are points moved by a way, if 32 bits hold them.
func shifted(v []api.Point, by api.Point) ([]api.Point, bool) {
	var list []api.Point
	for _, p := range v {
		x, y := int64(p.X)+int64(by.X), int64(p.Y)+int64(by.Y)
		if min(x, y) < least || max(x, y) > greatest {
			return nil, false
		}
		list = append(list, at(int32(x), int32(y)))
	}
	return list, true
}

// turning is on which side of the way from a to b the point p lies.
func turning(a, b, p api.Point) int { return product(a, b, p).Sign() }

// onSide tells whether p is on the segment from a to b.
func onSide(p, a, b api.Point) bool {
	return turning(a, b, p) == 0 && min(a.X, b.X) <= p.X && p.X <= max(a.X, b.X) && min(a.Y, b.Y) <= p.Y && p.Y <= max(a.Y, b.Y)
}

// touch tells whether two segments have a point in common, by the sides on which their ends lie.
func touch(a, b, c, d api.Point) bool {
	if turning(a, b, c)*turning(a, b, d) < 0 && turning(c, d, a)*turning(c, d, b) < 0 {
		return true
	}
	return onSide(a, c, d) || onSide(b, c, d) || onSide(c, a, b) || onSide(d, a, b)
}

// isChord tells whether the way from vertex i to vertex j, but for its ends, is within a ring that goes round against the clock.
func isChord(v []api.Point, i, j int) bool {
	n := len(v)
	a, b := v[i], v[j]
	for k := range n {
		c, d := v[k], v[(k+1)%n]
		ends := 0
		for _, p := range []api.Point{c, d} {
			if p == a || p == b {
				ends++
			}
		}
		// A side that ends in one of the chord's ends has more in common with it only if one of the others lies on the other segment.
		switch {
		case ends == 2:
			return false
		case ends == 0 && touch(a, b, c, d):
			return false
		case ends == 1 && (c != a && c != b && onSide(c, a, b) || d != a && d != b && onSide(d, a, b)):
			return false
		case ends == 1 && (onSide(a, c, d) && a != c && a != d || onSide(b, c, d) && b != c && b != d):
			return false
		}
	}
	// Nothing is in the chord's way: so it is within all along, if it is where it begins: between the sides there.
	from, to := v[(i+n-1)%n], v[(i+1)%n]
	if turning(from, a, to) >= 0 {
		return turning(a, to, b) > 0 && turning(from, a, b) > 0
	}
	return turning(a, to, b) > 0 || turning(from, a, b) > 0
}

// parts are the two rings into which a chord cuts one.
func parts(v []api.Point, i, j int) (first, second []api.Point) {
	return slices.Clone(v[i : j+1]), append(slices.Clone(v[j:]), v[:i+1]...)
}

// P7.9
func TestCutByAChord(t *testing.T) {
	r := rand.New(rand.NewSource(9))
	cuts, on := 0, 0
	for _, v := range rings() {
		if ring.Area2(v).Sign() < 0 {
			v = turned(v)
		}
		for range 6 {
			i, j := r.Intn(len(v)), r.Intn(len(v))
			if i >= j || !isChord(v, i, j) {
				continue
			}
			cuts++
			// Either way round.
			a, b := parts(v, i, j)
			whole := v
			if r.Intn(2) == 0 {
				whole, a, b = turned(v), turned(a), turned(b)
			}
			if !isRing(a) || !isRing(b) {
				t.Errorf("%s cut from %s to %s: a part is no ring", text(v...), text(v[i]), text(v[j]))
			}
			m := middle(v[i], v[j])
			for _, p := range append(near(r, v), m, at(m.X+1, m.Y), at(m.X, m.Y+1), at(m.X-1, m.Y), at(m.X, m.Y-1)) {
				if Covers(whole, p) != (Covers(a, p) || Covers(b, p)) {
					t.Errorf("%s in %s, cut from %s to %s: %v, %v, %v", text(p), text(v...), text(v[i]), text(v[j]), Covers(v, p), Covers(a, p), Covers(b, p))
				}
				if Edge(a, p) && !Edge(whole, p) {
					on++
				}
			}
		}
	}
	if cuts < 200 || on < 50 {
		t.Errorf("%d cuts, %d points on them", cuts, on)
	}
}

// triangles cuts a ring that goes round against the clock by chords, until nothing is left to cut.
func triangles(t *testing.T, v []api.Point) [][]api.Point {
	if len(v) == 3 {
		return [][]api.Point{v}
	}
	for i := range v {
		for j := i + 2; j < len(v); j++ {
			if isChord(v, i, j) {
				a, b := parts(v, i, j)
				return append(triangles(t, a), triangles(t, b)...)
			}
		}
	}
	t.Fatalf("nothing cuts %s", text(v...))
	return nil
}

// P7.3, P7.9
func TestCoversByTriangles(t *testing.T) {
	r := rand.New(rand.NewSource(10))
	var seen [2]int
	for _, v := range rings() {
		way := v
		if ring.Area2(v).Sign() < 0 {
			way = turned(v)
		}
		if len(v) > 20 && r.Intn(3) > 0 {
			continue
		}
		list := triangles(t, way)
		area := new(big.Int)
		for _, x := range list {
			area.Add(area, product(x[0], x[1], x[2]))
		}
		if area.Cmp(fan(v)) != 0 {
			t.Errorf("%s: the triangles' area is %v", text(v...), area)
		}
		for _, p := range near(r, v) {
			want := slices.ContainsFunc(list, func(x []api.Point) bool {
				return turning(x[0], x[1], p) >= 0 && turning(x[1], x[2], p) >= 0 && turning(x[2], x[0], p) >= 0
			})
			seen[number(want)]++
			if Covers(v, p) != want {
				t.Errorf("%s in %s: not %v", text(p), text(v...), want)
			}
		}
	}
	if min(seen[0], seen[1]) < 1000 {
		t.Errorf("not both answers are asked for: %v", seen)
	}
}

package shape

import (
	"math/rand"
	"slices"
	"testing"

	"paddock/api"
	"paddock/point"
	"paddock/seg"
)

// areaOf is the set of a shape that is right.
func areaOf(t *testing.T, s api.Shape) Area {
	t.Helper()
	a, e := Of(s)
	if e != api.OK || a == nil {
		t.Fatalf("%s: %v, %d", text(s), a, e)
	}
	return a
}

// P9.2: the points of the set, by the chapter's words.
func TestCoversByTheWords(t *testing.T) {
	r := rand.New(rand.NewSource(7))
	seen := map[api.ShapeKind]*[2]int{api.Poly: {}, api.Disc: {}, api.Rect: {}, api.Corridor: {}}
	for _, s := range right() {
		a := areaOf(t, s)
		list := near(r, s)
		for range 30 {
			p := pick(r, list)
			want := has(s, vecOf(p))
			seen[s.Kind][number(want)]++
			if a.Covers(p) != want {
				t.Errorf("%s: Covers of %s is not %v", text(s), points(p), want)
			}
		}
	}
	for kind, n := range seen {
		if min(n[0], n[1]) < 300 {
			t.Errorf("kind %d: not both answers are asked for: %v", kind, n)
		}
	}
}

// P9.2: the ways that meet the set, by the chapter's words.
func TestMeetsByTheWords(t *testing.T) {
	r := rand.New(rand.NewSource(8))
	// Of each kind: what does not meet, what meets with an end, what meets in its midst alone.
	seen := map[api.ShapeKind]*[3]int{api.Poly: {}, api.Disc: {}, api.Rect: {}, api.Corridor: {}}
	for _, s := range right() {
		a := areaOf(t, s)
		list := near(r, s)
		for range 12 {
			p, q := pick(r, list), pick(r, list)
			want := hasOf(s, p, q)
			seen[s.Kind][number(want)+number(want && !has(s, vecOf(p)) && !has(s, vecOf(q)))]++
			if a.Meets(p, q) != want || a.Meets(q, p) != want {
				t.Errorf("%s: Meets of %s is not %v", text(s), points(p, q), want)
			}
		}
	}
	for kind, n := range seen {
		if min(n[0], n[1], n[2]) < 50 {
			t.Errorf("kind %d: not all answers are asked for: %v", kind, n)
		}
	}
}

// P9.2: all ways on a small grid.
func TestMeetsOnASmallGrid(t *testing.T) {
	list := []api.Shape{
		polyOf(of(1, 1, 4, 1, 4, 4, 1, 4), of(2, 2, 3, 2, 2, 3)),
		polyOf(of(0, 0, 5, 0, 5, 5, 4, 5, 4, 1, 1, 1, 1, 5, 0, 5)),
		discOf(2, 2, 2), discOf(3, 2, 0), rectOf(1, 1, 4, 3), rectOf(2, 1, 2, 4), rectOf(1, 2, 4, 2), rectOf(2, 3, 2, 3),
		corridorOf(1, 1, 1, 4, 2), corridorOf(0, 1, 1, 3, 2, 4, 0), corridorOf(1, 2, 2, 2, 3, 3, 3),
	}
	for _, s := range list {
		a := areaOf(t, s)
		for i := range 36 * 36 {
			p, q := at(int32(i%6), int32(i/6%6)), at(int32(i/36%6), int32(i/216))
			if want := hasOf(s, p, q); a.Meets(p, q) != want {
				t.Errorf("%s: Meets of %s is not %v", text(s), points(p, q), want)
			}
			if want := has(s, vecOf(p)); a.Covers(p) != want {
				t.Errorf("%s: Covers of %s is not %v", text(s), points(p), want)
			}
		}
	}
}

// P9.2, P9.3
func TestCoversByHand(t *testing.T) {
	s, d, c := example(), discOf(0, 0, 5), corridorOf(2, 0, 0, 10, 0)
	box := rectOf(0, 0, 4, 2)
	far := polyOf(square(-bound, -bound, 2*bound), square(1-bound, 1-bound, 2*bound-2))
	bay := polyOf(of(0, 0, 9, 0, 9, 9, 6, 9, 6, 3, 3, 3, 3, 9, 0, 9))
	for _, x := range []struct {
		s    api.Shape
		p    api.Point
		want bool
	}{
		{s, at(1, 1), true}, {s, at(9, 9), true}, {s, at(4, 4), false}, {s, at(3, 4), true}, {s, at(10, 1), false},
		{s, at(0, 0), true}, {s, at(0, 5), true}, {s, at(5, 9), true}, {s, at(3, 3), true}, {s, at(6, 6), true}, {s, at(5, 6), true}, {s, at(6, 5), true}, {s, at(5, 5), false}, {s, at(-1, 0), false}, {s, at(0, 10), false},
		{d, at(3, 4), true}, {d, at(4, 4), false}, {d, at(0, 5), true}, {d, at(0, -5), true}, {d, at(0, 0), true}, {d, at(-6, 0), false}, {d, at(-4, -3), true}, {d, at(1, 5), false},
		{c, at(12, 0), true}, {c, at(11, 2), false}, {c, at(12, 1), false}, {c, at(5, 2), true}, {c, at(5, -2), true}, {c, at(5, 3), false}, {c, at(-2, 0), true}, {c, at(-3, 0), false}, {c, at(-1, 1), true}, {c, at(-1, 2), false},
		{box, at(0, 0), true}, {box, at(4, 2), true}, {box, at(4, 0), true}, {box, at(2, 1), true}, {box, at(5, 2), false}, {box, at(4, 3), false}, {box, at(-1, 1), false}, {box, at(1, -1), false},
		{rectOf(3, 3, 3, 3), at(3, 3), true}, {rectOf(3, 3, 3, 3), at(3, 4), false}, {rectOf(3, 1, 3, 5), at(3, 2), true}, {rectOf(3, 1, 3, 5), at(2, 2), false},
		{discOf(7, 7, 0), at(7, 7), true}, {discOf(7, 7, 0), at(7, 8), false},
		{far, at(-bound, 0), true}, {far, at(1-bound, 0), true}, {far, at(2-bound, 0), false}, {far, at(0, 0), false}, {far, at(bound, bound), true}, {far, at(bound-1, bound-1), true},
		{bay, at(4, 5), false}, {bay, at(4, 3), true}, {bay, at(3, 9), true}, {bay, at(4, 9), false}, {bay, at(7, 9), true},
		// The greatest distances, and sizes that just reach.
		{discOf(-bound, -bound, bound), at(bound, bound), false}, {discOf(-bound, 0, bound), at(0, 0), true}, {discOf(-bound, 0, bound), at(0, 1), false}, {discOf(-bound, 0, bound), at(1, 0), false}, {discOf(-bound, 0, bound-1), at(0, 0), false},
		{corridorOf(bound, -bound, -bound, bound, -bound), at(0, 0), true}, {corridorOf(bound, -bound, -bound, bound, -bound), at(0, 1), false}, {corridorOf(bound-1, -bound, -bound, bound, -bound), at(0, 0), false},
		{corridorOf(759250124, -bound, -bound, bound, bound), at(0, bound), false}, {corridorOf(759250125, -bound, -bound, bound, bound), at(0, bound), true},
		{corridorOf(0, -bound, -bound, bound, bound-1), at(0, 0), false}, {corridorOf(1, -bound, -bound, bound, bound-1), at(0, 0), true},
		{corridorOf(1, 0, 0, 9, 0, 9, 9), at(10, 5), true}, {corridorOf(1, 0, 0, 9, 0, 9, 9), at(5, 5), false}, {corridorOf(1, 0, 0, 9, 9, 9, 0), at(4, 0), false},
	} {
		if got := Covers(x.s, x.p); got != x.want || areaOf(t, x.s).Covers(x.p) != x.want {
			t.Errorf("%s: Covers of %s: %v", text(x.s), points(x.p), got)
		}
	}
}

// P9.2, P9.3
func TestMeetsByHand(t *testing.T) {
	s, d, c := example(), discOf(0, 0, 5), corridorOf(2, 0, 0, 10, 0)
	box := rectOf(0, 0, 4, 2)
	hollow := polyOf(square(-bound, -bound, 2*bound), square(1-bound, 1-bound, 2*bound-2))
	for _, x := range []struct {
		s    api.Shape
		p, q api.Point
		want bool
	}{
		{s, at(4, 4), at(5, 5), false}, {s, at(4, 4), at(7, 4), true}, {s, at(-1, -1), at(-1, 20), false},
		{s, at(4, 4), at(6, 4), true}, {s, at(4, 4), at(4, 4), false}, {s, at(3, 4), at(3, 4), true}, {s, at(4, 5), at(3, 3), true}, {s, at(1, 1), at(2, 2), true}, {s, at(-1, 1), at(1, -1), true}, {s, at(-1, 0), at(0, -1), false}, {s, at(-5, 5), at(20, 5), true}, {s, at(-1, 8), at(1, 10), true}, {s, at(-1, 9), at(1, 11), false}, {s, at(9, 10), at(9, 20), false}, {s, at(9, 9), at(9, 20), true}, {s, at(-3, 9), at(20, 9), true}, {s, at(-3, 10), at(20, 10), false}, {s, at(4, 4), at(20, 20), true}, {s, at(20, 20), at(1, 1), true},
		{d, at(5, -9), at(5, 9), true}, {d, at(6, -9), at(6, 9), false}, {d, at(0, 0), at(0, 0), true}, {d, at(-9, 5), at(9, 5), true}, {d, at(-9, -6), at(9, -6), false}, {d, at(3, 4), at(9, 9), true}, {d, at(4, 4), at(9, 9), false}, {d, at(0, 8), at(8, 0), false}, {d, at(0, 7), at(7, 0), true}, {d, at(1, 1), at(2, 2), true}, {d, at(-1, 7), at(7, 1), true}, {d, at(-2, 8), at(6, 2), false},
		{c, at(0, 3), at(10, 3), false}, {c, at(0, 3), at(10, 2), true}, {c, at(5, -9), at(5, 9), true}, {c, at(13, -9), at(13, 9), false}, {c, at(12, -9), at(12, 9), true}, {c, at(4, 1), at(4, 1), true}, {c, at(4, 3), at(4, 3), false}, {c, at(11, 2), at(13, 1), false},
		{box, at(-1, 1), at(9, 1), true}, {box, at(-1, 2), at(1, 4), false}, {box, at(-1, 1), at(1, 3), true}, {box, at(1, 1), at(2, 1), true}, {box, at(4, 2), at(9, 9), true}, {box, at(5, 0), at(5, 2), false}, {box, at(-3, 3), at(9, 3), false}, {box, at(-3, 2), at(9, 2), true}, {box, at(3, 5), at(7, 1), false}, {box, at(3, 3), at(5, 1), true},
		{rectOf(1, 1, 1, 1), at(0, 0), at(2, 2), true}, {rectOf(1, 1, 1, 1), at(0, 0), at(2, 3), false}, {rectOf(1, 1, 1, 1), at(1, 1), at(1, 1), true}, {rectOf(1, 1, 1, 5), at(0, 0), at(2, 8), true}, {rectOf(1, 1, 1, 5), at(0, 0), at(2, 12), false}, {rectOf(1, 1, 1, 5), at(1, 5), at(1, 9), true}, {rectOf(1, 1, 1, 5), at(1, 6), at(1, 9), false}, {rectOf(-2, 3, 7, 3), at(-9, 3), at(9, 3), true},
		{discOf(1, 1, 0), at(0, 0), at(2, 2), true}, {discOf(1, 1, 0), at(0, 0), at(3, 2), false},
		{hollow, at(2-bound, 2-bound), at(bound-2, bound-2), false}, {hollow, at(2-bound, 2-bound), at(bound-1, bound-2), true}, {hollow, at(0, 0), at(bound, 1), true},
		// What passes a slant edge as near as can be.
		{polyOf(of(-bound, -bound, bound, bound-1, bound, -bound)), at(-bound, 1-bound), at(bound, bound), false}, {polyOf(of(-bound, -bound, bound, bound-1, bound, -bound)), at(-bound, 1-bound), at(bound, bound-1), true}, {polyOf(of(-bound, -bound, bound, bound-1, bound, -bound)), at(0, 0), at(0, 0), false}, {polyOf(of(-bound, -bound, bound, bound-1, bound, -bound)), at(-1, 0), at(0, 0), false}, {polyOf(of(-bound, -bound, bound, bound-1, bound, -bound)), at(0, 0), at(1, 0), true},
		{rectOf(-bound, -bound, 0, 0), at(-bound, bound), at(bound, -bound), true}, {rectOf(-bound, -bound, 0, 0), at(-bound, bound), at(bound, 1-bound), false}, {rectOf(-bound, -bound, 0, 0), at(1-bound, bound), at(bound, -bound), false},
		{discOf(bound, bound, bound), at(-bound, bound), at(bound, -bound), false}, {discOf(0, 0, 759250124), at(-bound, 0), at(0, bound), false}, {discOf(0, 0, 759250125), at(-bound, 0), at(0, bound), true},
	} {
		if got := Meets(x.s, x.p, x.q); got != x.want || Meets(x.s, x.q, x.p) != x.want || areaOf(t, x.s).Meets(x.p, x.q) != x.want {
			t.Errorf("%s: Meets of %s: %v", text(x.s), points(x.p, x.q), got)
		}
	}
}

// P9.2: points that are not of the lattice.
func TestBeyondTheLattice(t *testing.T) {
	r := rand.New(rand.NewSource(9))
	for _, s := range right() {
		a := areaOf(t, s)
		list := near(r, s)
		for _, p := range beyond() {
			q := s.Verts[0]
			if a.Covers(p) || a.Meets(p, p) || a.Meets(p, q) || a.Meets(q, p) || a.Meets(p, pick(r, list)) || a.Meets(pick(r, list), p) || a.Meets(p, pick(r, beyond())) {
				t.Errorf("%s: has something of %s", text(s), points(p))
			}
		}
	}
}

// boundsWanted is P9.2's box, side by side in numbers without a bound.
func boundsWanted(s api.Shape) api.Box {
	wide := int64(0)
	if s.Kind == api.Disc || s.Kind == api.Corridor {
		wide = int64(s.Size)
	}
	low, high := [2]int64{bound, bound}, [2]int64{-bound, -bound}
	for _, p := range s.Verts {
		for i, v := range [2]int64{int64(p.X), int64(p.Y)} {
			low[i], high[i] = max(-bound, min(low[i], v-wide)), min(bound, max(high[i], v+wide))
		}
	}
	return box(int32(low[0]), int32(low[1]), int32(high[0]), int32(high[1]))
}

// P9.2, P9.3
func TestBounds(t *testing.T) {
	for _, s := range right() {
		want := boundsWanted(s)
		if got := areaOf(t, s).Bounds(); got != want {
			t.Errorf("%s: %v, want %v", text(s), got, want)
		}
		if got, ok := Bounds(s); !ok || got != want {
			t.Errorf("%s: %v, %v, want %v", text(s), got, ok, want)
		}
	}
	for _, x := range []struct {
		s    api.Shape
		want api.Box
	}{
		{example(), box(0, 0, 9, 9)}, {discOf(0, 0, 5), box(-5, -5, 5, 5)}, {corridorOf(2, 0, 0, 10, 0), box(-2, -2, 12, 2)},
		{discOf(bound, 0, bound), box(0, -bound, bound, bound)}, {discOf(-bound, 3, bound), box(-bound, 3-bound, 0, bound)}, {discOf(7, -bound, bound-1), box(8-bound, -bound, bound, -1)},
		{discOf(4, 5, 0), box(4, 5, 4, 5)}, {discOf(bound, bound, 0), box(bound, bound, bound, bound)}, {rectOf(3, -4, 3, 9), box(3, -4, 3, 9)}, {rectOf(-bound, -bound, bound, bound), box(-bound, -bound, bound, bound)},
		{corridorOf(1, 5, 5, 0, 9, 3, -7), box(-1, -8, 6, 10)}, {corridorOf(bound, -bound, -bound, bound, bound), box(-bound, -bound, bound, bound)}, {corridorOf(bound, bound, 0, bound-1, 0), box(-1, -bound, bound, bound)},
		{polyOf(of(-3, 4, -9, -8, 7, 1)), box(-9, -8, 7, 4)},
	} {
		if got, ok := Bounds(x.s); !ok || got != x.want {
			t.Errorf("%s: %v, %v, want %v", text(x.s), got, ok, x.want)
		}
	}
}

// P9.3: of a shape that may not be.
func TestOfWrongShapes(t *testing.T) {
	for _, s := range []api.Shape{
		{}, {Kind: 5}, {Kind: api.Poly}, {Kind: api.Disc}, {Kind: api.Rect}, {Kind: api.Corridor}, discOf(0, 0, -1), discOf(0, 0, bound+1), rectOf(9, 9, 0, 0), rectOf(-1, -1, 1, bound+1),
		corridorOf(9, 0, 0), corridorOf(-1, 0, 0, 9, 9), polyOf(of(0, 0, 4, 4, 4, 0, 0, 4)), polyOf(square(-4, -4, 9), square(20, 20, 1)), polyOf(square(-4, -4, 9), make([][]api.Point, 9)...), {Kind: api.Poly, Verts: square(-4, -4, 9), Size: 1},
	} {
		a, e := Of(s)
		if a != nil || e == api.OK || e != Check(s) {
			t.Errorf("%s: %v, %d", text(s), a, e)
		}
		b, ok := Bounds(s)
		if Covers(s, at(0, 0)) || Meets(s, at(-9, -9), at(9, 9)) || Meets(s, at(0, 0), at(0, 0)) || ok || b != (api.Box{}) {
			t.Errorf("%s: something is told of it", text(s))
		}
	}
}

// P9.2: what an Area was made of is not kept, and it stays as it is.
func TestAreaStays(t *testing.T) {
	r := rand.New(rand.NewSource(10))
	for _, s := range right() {
		made := cloned(s)
		// Spare room behind the lists, which nobody may take.
		made.Verts = append(made.Verts, at(1, 2), at(3, 4))[:len(s.Verts)]
		a := areaOf(t, made)
		before := cloned(made)
		list := near(r, s)
		p, q := pick(r, list), pick(r, list)
		covers, meets, bounds := a.Covers(p), a.Meets(p, q), a.Bounds()
		if !Same(made, before) || made.Verts[:cap(made.Verts)][len(s.Verts)] != at(1, 2) {
			t.Errorf("%s is changed", text(s))
		}
		for _, v := range append([][]api.Point{made.Verts}, made.Holes...) {
			clear(v)
		}
		clear(made.Holes)
		if a.Covers(p) != covers || a.Meets(p, q) != meets || a.Bounds() != bounds || bounds != boundsWanted(s) {
			t.Errorf("%s: its Area is another", text(s))
		}
	}
}

// P9.6
func TestCoveringAndMeeting(t *testing.T) {
	r := rand.New(rand.NewSource(11))
	for _, s := range right() {
		a := areaOf(t, s)
		list := near(r, s)
		for range 40 {
			p, q := pick(r, list), pick(r, list)
			way, _ := point.Bounds(p, q)
			switch {
			case a.Covers(p) != a.Meets(p, p):
				t.Errorf("%s: Covers of %s is not Meets", text(s), points(p))
			case a.Meets(p, q) != a.Meets(q, p):
				t.Errorf("%s: Meets of %s is not that of its ends changed about", text(s), points(p, q))
			case (a.Covers(p) || a.Covers(q)) && !a.Meets(p, q):
				t.Errorf("%s: it covers an end of %s and does not meet it", text(s), points(p, q))
			case a.Meets(p, q) && !point.Meet(a.Bounds(), way):
				t.Errorf("%s: it meets %s outside of its box", text(s), points(p, q))
			case a.Covers(p) && !point.Has(a.Bounds(), p):
				t.Errorf("%s: it covers %s outside of its box", text(s), points(p))
			}
		}
	}
}

// alike tells of two shapes whose answers are not the same.
func alike(t *testing.T, r *rand.Rand, s, other api.Shape) {
	t.Helper()
	a, b := areaOf(t, s), areaOf(t, other)
	if a.Bounds() != b.Bounds() {
		t.Errorf("%s, %s: %v, %v", text(s), text(other), a.Bounds(), b.Bounds())
	}
	list := near(r, s)
	for range 40 {
		p, q := pick(r, list), pick(r, list)
		if a.Covers(p) != b.Covers(p) || a.Meets(p, q) != b.Meets(p, q) {
			t.Errorf("%s, %s: they do not have the same of %s", text(s), text(other), points(p, q))
		}
	}
}

// P9.7: a Poly of four corners is a Rect.
func TestPolyAsRect(t *testing.T) {
	r := rand.New(rand.NewSource(12))
	n := 0
	for _, s := range right() {
		low, high := s.Verts[0], s.Verts[1%len(s.Verts)]
		if s.Kind != api.Rect || low.X == high.X || low.Y == high.Y {
			continue
		}
		corners := of(low.X, low.Y, high.X, low.Y, high.X, high.Y, low.X, high.Y)
		alike(t, r, s, polyOf(corners))
		alike(t, r, s, polyOf(turned(begun(corners, r.Intn(4)))))
		n++
	}
	if n < 50 {
		t.Errorf("%d boxes", n)
	}
}

// P9.7: a Corridor and a Disc of the size 0.
func TestSizeNought(t *testing.T) {
	r := rand.New(rand.NewSource(13))
	var met, covered [2]int
	for _, s := range right() {
		if s.Kind != api.Corridor && s.Kind != api.Disc {
			continue
		}
		list := near(r, s)
		s.Size = 0
		a := areaOf(t, s)
		for range 60 {
			p, q := pick(r, list), pick(r, list)
			has, meets := p == s.Verts[0], point.On(s.Verts[0], p, q)
			for i := range len(s.Verts) - 1 {
				has = has || point.On(p, s.Verts[i], s.Verts[i+1])
				meets = meets || seg.Touch(p, q, s.Verts[i], s.Verts[i+1])
			}
			covered[number(has)]++
			met[number(meets)]++
			if a.Covers(p) != has || a.Meets(p, q) != meets {
				t.Errorf("%s: of %s %v, %v", text(s), points(p, q), a.Covers(p), a.Meets(p, q))
			}
		}
	}
	if min(met[0], met[1], covered[0], covered[1]) < 100 {
		t.Errorf("not both answers are asked for: %v, %v", met, covered)
	}
}

// P9.7: a ring turned about, begun elsewhere; holes in another order.
func TestOtherOrders(t *testing.T) {
	r := rand.New(rand.NewSource(14))
	holes := 0
	for _, s := range right() {
		if s.Kind != api.Poly {
			continue
		}
		other := cloned(s)
		other.Verts = begun(other.Verts, r.Intn(len(other.Verts)))
		alike(t, r, s, other)
		alike(t, r, s, polyOf(turned(s.Verts), s.Holes...))
		for i, h := range other.Holes {
			holes++
			other.Holes[i] = begun(h, r.Intn(len(h)))
			if r.Intn(2) == 0 {
				other.Holes[i] = turned(h)
			}
		}
		alike(t, r, s, other)
		slices.Reverse(other.Holes)
		alike(t, r, s, other)
		r.Shuffle(len(other.Holes), func(i, j int) { other.Holes[i], other.Holes[j] = other.Holes[j], other.Holes[i] })
		alike(t, r, s, other)
	}
	if holes < 100 {
		t.Errorf("%d holes", holes)
	}
}

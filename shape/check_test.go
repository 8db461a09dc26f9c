package shape

import (
	"math/rand"
	"slices"
	"testing"

	"paddock/api"
	"paddock/point"
	"paddock/ring"
)

// wanted is P9.1 written a second time: all reasons that apply, gathered in their order, and the first of them.
func wanted(s api.Shape) api.Errno {
	var reasons []api.Errno
	add := func(is bool, e api.Errno) {
		if is && e != api.OK {
			reasons = append(reasons, e)
		}
	}
	poly, disc, rect, corridor := s.Kind == 1, s.Kind == 2, s.Kind == 3, s.Kind == 4
	add(!poly && !disc && !rect && !corridor, api.ErrKind)
	add(!poly && len(s.Holes) != 0, api.ErrForeign)
	add((poly || rect) && s.Size != 0, api.ErrForeign)
	add(disc && len(s.Verts) != 1 || rect && len(s.Verts) != 2, api.ErrForeign)
	if len(reasons) > 0 {
		return reasons[0]
	}
	if poly {
		return polyWanted(s)
	}
	add(corridor && (len(s.Verts) < 2 || len(s.Verts) > 16), api.ErrBends)
	for _, p := range s.Verts {
		add(max(p.X, p.Y) > bound || min(p.X, p.Y) < -bound, api.ErrBound)
	}
	if rect {
		add(s.Verts[0].X > s.Verts[1].X, api.ErrCorners)
		add(s.Verts[0].Y > s.Verts[1].Y, api.ErrCorners)
	}
	for i, p := range s.Verts {
		add(corridor && i > 0 && p == s.Verts[i-1], api.ErrBends)
	}
	add((disc || corridor) && (s.Size < 0 || s.Size > bound), api.ErrSize)
	return append(reasons, api.OK)[0]
}

func polyWanted(s api.Shape) api.Errno {
	if reason, _, _ := ring.Check(s.Verts); reason != api.OK {
		return reason
	}
	if len(s.Holes) > 8 {
		return api.ErrHoles
	}
	for _, h := range s.Holes {
		if reason, _, _ := ring.Check(h); reason != api.OK {
			return reason
		}
	}
	for i, h := range s.Holes {
		if _, in := standsTo(s.Verts, vecOf(h[0])); !in || sidesMeet(s.Verts, h) {
			return api.ErrHole
		}
		for _, other := range s.Holes[:i] {
			_, first := standsTo(h, vecOf(other[0]))
			_, second := standsTo(other, vecOf(h[0]))
			if first || second || sidesMeet(h, other) {
				return api.ErrHole
			}
		}
	}
	return api.OK
}

// sidesMeet tells whether a side of one ring has a point of a side of another one.
func sidesMeet(v, w []api.Point) bool {
	met := false
	ends(v, func(a, b vec) {
		ends(w, func(c, d vec) {
			met = met || apart2(a, b, c, d).Sign() == 0
		})
	})
	return met
}

// P9.1
func TestCheckByHand(t *testing.T) {
	hole := square(3, 3, 3)
	ring64, ring65 := comb(31, 4, 4), comb(31, 4, 4)
	ring65 = append(ring65, at(0, 0))
	eight := func(more ...[]api.Point) api.Shape {
		s := polyOf(square(-1, -1, 40))
		for i := range int32(8) {
			s.Holes = append(s.Holes, square(4*i, 4*i, 3))
		}
		s.Holes = append(s.Holes, more...)
		return s
	}
	bends := func(n int) api.Shape {
		s := api.Shape{Kind: api.Corridor}
		for i := range n {
			s.Verts = append(s.Verts, at(int32(i), int32(i*i)))
		}
		return s
	}
	for _, x := range []struct {
		what string
		s    api.Shape
		want api.Errno
	}{
		{"the chapter's S", example(), api.OK},
		{"the chapter's D", discOf(0, 0, 5), api.OK},
		{"the chapter's C", corridorOf(2, 0, 0, 10, 0), api.OK},

		{"no kind", api.Shape{}, api.ErrKind},
		{"the kind behind the last", api.Shape{Kind: 5, Verts: of(0, 0)}, api.ErrKind},
		{"the last number of a kind", api.Shape{Kind: 255, Verts: of(0, 0)}, api.ErrKind},
		{"no kind, with all fields", api.Shape{Verts: of(least, least), Holes: [][]api.Point{nil}, Size: least}, api.ErrKind},

		{"a Poly with a size", api.Shape{Kind: api.Poly, Verts: square(0, 0, 9), Size: 1}, api.ErrForeign},
		{"a Poly with a size below 0", api.Shape{Kind: api.Poly, Verts: square(0, 0, 9), Size: least}, api.ErrForeign},
		{"a Disc with a hole", api.Shape{Kind: api.Disc, Verts: of(0, 0), Size: 9, Holes: [][]api.Point{square(0, 0, 1)}}, api.ErrForeign},
		{"a Disc with a hole of no points", api.Shape{Kind: api.Disc, Verts: of(0, 0), Size: 9, Holes: [][]api.Point{nil}}, api.ErrForeign},
		{"a Disc with no point", api.Shape{Kind: api.Disc, Size: 9}, api.ErrForeign},
		{"a Disc with an empty list", api.Shape{Kind: api.Disc, Verts: []api.Point{}, Size: 9}, api.ErrForeign},
		{"a Disc with two points", api.Shape{Kind: api.Disc, Verts: of(0, 0, 1, 1), Size: 9}, api.ErrForeign},
		{"a Disc with an empty list of holes", api.Shape{Kind: api.Disc, Verts: of(0, 0), Size: 9, Holes: [][]api.Point{}}, api.OK},
		{"a Rect with a size", api.Shape{Kind: api.Rect, Verts: of(0, 0, 1, 1), Size: 1}, api.ErrForeign},
		{"a Rect with a size below 0", api.Shape{Kind: api.Rect, Verts: of(0, 0, 1, 1), Size: -1}, api.ErrForeign},
		{"a Rect with a hole", api.Shape{Kind: api.Rect, Verts: of(0, 0, 9, 9), Holes: [][]api.Point{hole}}, api.ErrForeign},
		{"a Rect with no point", api.Shape{Kind: api.Rect}, api.ErrForeign},
		{"a Rect with one point", api.Shape{Kind: api.Rect, Verts: of(0, 0)}, api.ErrForeign},
		{"a Rect with three points", api.Shape{Kind: api.Rect, Verts: of(0, 0, 1, 1, 2, 2)}, api.ErrForeign},
		{"a Rect with an empty list of holes", api.Shape{Kind: api.Rect, Verts: of(0, 0, 9, 9), Holes: [][]api.Point{}}, api.OK},
		{"a Corridor with a hole", api.Shape{Kind: api.Corridor, Verts: of(0, 0, 9, 9), Size: 9, Holes: [][]api.Point{hole}}, api.ErrForeign},
		{"a Corridor with a hole, and nothing else", api.Shape{Kind: api.Corridor, Holes: [][]api.Point{nil}}, api.ErrForeign},

		{"a Poly of none", api.Shape{Kind: api.Poly}, api.ErrVerts},
		{"a Poly of two", polyOf(of(0, 0, 1, 0)), api.ErrVerts},
		{"a Poly of three", polyOf(of(0, 0, 1, 0, 0, 1)), api.OK},
		{"a Poly of 64", polyOf(ring64), api.OK},
		{"a Poly of 65", polyOf(ring65), api.ErrVerts},
		{"a Poly off the lattice", polyOf(of(0, 0, bound+1, 0, 0, 1)), api.ErrBound},
		{"a Poly with one point twice", polyOf(of(0, 0, 4, 0, 4, 0, 0, 4)), api.ErrSame},
		{"a Poly that folds", polyOf(of(0, 0, 4, 0, 2, 0)), api.ErrFold},
		{"a Poly that crosses", polyOf(of(0, 0, 4, 4, 4, 0, 0, 4)), api.ErrCross},
		{"a hole of two", polyOf(square(0, 0, 9), hole[:2]), api.ErrVerts},
		{"a hole of none", polyOf(square(0, 0, 9), nil), api.ErrVerts},
		{"a hole of 65", polyOf(square(-9, -9, 900), ring65), api.ErrVerts},
		{"a hole of 64", polyOf(square(-9, -9, 900), ring64), api.OK},
		{"a hole off the lattice", polyOf(square(0, 0, 9), of(3, 3, 4, 3, 3, least)), api.ErrBound},
		{"a hole with one point twice", polyOf(square(0, 0, 9), of(3, 3, 4, 3, 4, 4, 3, 3)), api.ErrSame},
		{"a hole that folds", polyOf(square(0, 0, 9), of(3, 3, 6, 3, 4, 3)), api.ErrFold},
		{"a hole that crosses", polyOf(square(0, 0, 9), of(3, 3, 6, 6, 6, 3, 3, 6)), api.ErrCross},
		{"the first of two wrong holes", polyOf(square(0, 0, 9), of(3, 3, 6, 3, 4, 3), of(3, 3)), api.ErrFold},
		{"the second hole wrong", polyOf(square(0, 0, 9), hole, of(7, 7)), api.ErrVerts},
		{"eight holes", eight(), api.OK},
		{"nine holes", eight(square(35, 35, 2)), api.ErrHoles},
		{"nine holes, wrong ones", polyOf(square(0, 0, 9), make([][]api.Point, 9)...), api.ErrHoles},
		{"256 holes", polyOf(square(0, 0, 9), make([][]api.Point, 256)...), api.ErrHoles},
		{"a wrong ring with nine holes", polyOf(of(0, 0, 4, 0, 2, 0), make([][]api.Point, 9)...), api.ErrFold},

		{"a hole at a corner and an edge", polyOf(square(0, 0, 9), of(0, 0, 1, 1, 0, 1)), api.ErrHole},
		{"a hole twice", polyOf(square(0, 0, 9), hole, hole), api.ErrHole},
		{"a hole outside", polyOf(square(0, 0, 9), of(20, 20, 21, 20, 21, 21)), api.ErrHole},
		{"a hole that touches an edge with a corner", polyOf(square(0, 0, 9), of(5, 5, 9, 6, 5, 7)), api.ErrHole},
		{"a hole that touches an edge with its first corner", polyOf(square(0, 0, 9), of(9, 6, 5, 7, 5, 5)), api.ErrHole},
		{"a hole that touches a corner with a corner", polyOf(square(0, 0, 9), of(5, 5, 9, 9, 5, 7)), api.ErrHole},
		{"a hole whose edge touches a corner", polyOf(of(0, 0, 9, 0, 5, 5, 0, 9), of(4, 6, 6, 4, 3, 3)), api.ErrHole},
		{"a hole with an edge on an edge", polyOf(square(0, 0, 9), of(0, 2, 3, 2, 3, 4, 0, 4)), api.ErrHole},
		{"a hole over an edge", polyOf(square(0, 0, 9), square(8, 3, 3)), api.ErrHole},
		{"a hole over an edge, begun outside", polyOf(square(0, 0, 9), begun(square(8, 3, 3), 1)), api.ErrHole},
		{"a hole through the whole ring", polyOf(square(0, 0, 9), of(-1, 3, 10, 3, 10, 4, -1, 4)), api.ErrHole},
		{"a hole that is the ring", polyOf(square(0, 0, 9), square(0, 0, 9)), api.ErrHole},
		{"a hole around the ring", polyOf(square(0, 0, 9), square(-1, -1, 11)), api.ErrHole},
		{"a hole outside that touches", polyOf(square(0, 0, 9), square(9, 9, 2)), api.ErrHole},
		{"a hole in a bay of the ring", polyOf(of(0, 0, 9, 0, 9, 9, 6, 9, 6, 3, 3, 3, 3, 9, 0, 9), square(4, 4, 1)), api.ErrHole},
		{"a hole in an arm of that ring", polyOf(of(0, 0, 9, 0, 9, 9, 6, 9, 6, 3, 3, 3, 3, 9, 0, 9), square(7, 4, 1)), api.OK},
		{"the second hole outside", polyOf(square(0, 0, 9), hole, square(20, 20, 2)), api.ErrHole},

		{"holes that touch with corners", polyOf(square(0, 0, 9), square(1, 1, 2), square(3, 3, 2)), api.ErrHole},
		{"holes that touch with edges", polyOf(square(0, 0, 9), square(1, 1, 2), square(3, 1, 2)), api.ErrHole},
		{"holes that touch, a corner at an edge", polyOf(square(0, 0, 9), square(1, 1, 3), of(4, 2, 6, 1, 6, 3)), api.ErrHole},
		{"holes that cross", polyOf(square(0, 0, 9), square(1, 1, 3), square(3, 3, 3)), api.ErrHole},
		{"holes that cross like a cross", polyOf(square(0, 0, 9), of(1, 4, 8, 4, 8, 5, 1, 5), of(4, 1, 5, 1, 5, 8, 4, 8)), api.ErrHole},
		{"a hole in a hole", polyOf(square(0, 0, 9), hole, square(4, 4, 1)), api.ErrHole},
		{"a hole around a hole", polyOf(square(0, 0, 9), square(4, 4, 1), hole), api.ErrHole},
		{"a hole in the bay of a hole", polyOf(square(0, 0, 12), of(2, 2, 10, 2, 10, 10, 8, 10, 8, 4, 4, 4, 4, 10, 2, 10), square(5, 5, 2)), api.OK},
		{"that the other way about", polyOf(square(0, 0, 12), square(5, 5, 2), of(2, 2, 10, 2, 10, 10, 8, 10, 8, 4, 4, 4, 4, 10, 2, 10)), api.OK},
		{"the first and the third touch", polyOf(square(0, 0, 9), square(1, 1, 2), square(6, 6, 2), square(3, 3, 2)), api.ErrHole},
		{"the second and the third touch", polyOf(square(0, 0, 9), square(6, 6, 2), square(1, 1, 2), square(3, 3, 2)), api.ErrHole},
		{"the seventh and the eighth touch", polyOf(square(-1, -1, 40), append(eight().Holes[:7:7], square(27, 27, 2))...), api.ErrHole},
		{"holes one apart", polyOf(square(0, 0, 9), square(1, 1, 2), square(4, 1, 2)), api.OK},
		{"a hole one from the lattice's edge", polyOf(square(-bound, -bound, 2*bound), square(1-bound, 1-bound, 2*bound-2)), api.OK},
		{"a hole at the lattice's edge", polyOf(square(-bound, -bound, 2*bound), of(1-bound, 1-bound, bound-1, 1-bound, bound, bound)), api.ErrHole},
		{"a hole beside a long slant edge", polyOf(of(-bound, -bound, bound, bound-1, -bound, bound), of(-bound+1, 2-bound, -bound+2, 3-bound, -bound+1, 3-bound)), api.OK},

		{"a Disc of size 0", discOf(1, 1, 0), api.OK},
		{"a Disc of size -1", discOf(0, 0, -1), api.ErrSize},
		{"a Disc of the least size", discOf(0, 0, least), api.ErrSize},
		{"a Disc of the greatest size", discOf(0, 0, bound), api.OK},
		{"a Disc of one more", discOf(0, 0, bound+1), api.ErrSize},
		{"a Disc of the greatest number", discOf(0, 0, greatest), api.ErrSize},
		{"a Disc in the lattice's corner", discOf(bound, -bound, bound), api.OK},
		{"a Disc off the lattice in x", discOf(bound+1, 0, 1), api.ErrBound},
		{"a Disc off the lattice in y", discOf(0, -bound-1, 1), api.ErrBound},
		{"a Disc off the lattice with a wrong size", discOf(least, 0, -1), api.ErrBound},

		{"a Rect of a point", rectOf(3, 3, 3, 3), api.OK},
		{"a Rect of a line up", rectOf(3, 2, 3, 4), api.OK},
		{"a Rect of a level line", rectOf(2, 3, 4, 3), api.OK},
		{"a Rect of all", rectOf(-bound, -bound, bound, bound), api.OK},
		{"a Rect with the corners about in x", rectOf(3, 0, 2, 9), api.ErrCorners},
		{"a Rect with the corners about in y", rectOf(0, 3, 9, 2), api.ErrCorners},
		{"a Rect with the corners about in both", rectOf(9, 9, 0, 0), api.ErrCorners},
		{"a Rect whose first is off the lattice", rectOf(-bound-1, 0, 1, 1), api.ErrBound},
		{"a Rect whose second is off the lattice", rectOf(0, 0, 1, bound+1), api.ErrBound},
		{"a Rect off the lattice, the corners about", rectOf(greatest, 0, 0, 0), api.ErrBound},

		{"a Corridor of none", corridorOf(1), api.ErrBends},
		{"a Corridor of one", corridorOf(1, 0, 0), api.ErrBends},
		{"a Corridor of 16", bends(16), api.OK},
		{"a Corridor of 17", bends(17), api.ErrBends},
		{"a Corridor that stands", corridorOf(1, 0, 0, 0, 0), api.ErrBends},
		{"a Corridor that stands at its end", corridorOf(1, 0, 0, 1, 0, 1, 0), api.ErrBends},
		{"a Corridor that stands in its midst", corridorOf(1, 0, 0, 1, 0, 1, 0, 2, 0), api.ErrBends},
		{"a Corridor that comes back", corridorOf(1, 0, 0, 1, 0, 0, 0), api.OK},
		{"a Corridor whose first is off the lattice", corridorOf(1, bound+1, 0, 1, 0), api.ErrBound},
		{"a Corridor whose last is off the lattice", corridorOf(1, 0, 0, 1, 0, 0, -bound-1), api.ErrBound},
		{"a Corridor that stands off the lattice", corridorOf(1, least, 0, least, 0), api.ErrBound},
		{"one point off the lattice", corridorOf(1, least, 0), api.ErrBends},
		{"a Corridor that stands, with a wrong size", corridorOf(-1, 0, 0, 0, 0), api.ErrBends},
		{"a Corridor of size 0", corridorOf(0, 0, 0, 1, 0), api.OK},
		{"a Corridor of size -1", corridorOf(-1, 0, 0, 1, 0), api.ErrSize},
		{"a Corridor of the greatest size", corridorOf(bound, 0, 0, 1, 0), api.OK},
		{"a Corridor of one more", corridorOf(bound+1, 0, 0, 1, 0), api.ErrSize},
		{"a Corridor of the least number", corridorOf(least, 0, 0, 1, 0), api.ErrSize},
	} {
		if got := Check(x.s); got != x.want {
			t.Errorf("%s: %d, want %d", x.what, got, x.want)
		}
		if again := wanted(x.s); again != x.want {
			t.Errorf("%s: written a second time %d, want %d", x.what, again, x.want)
		}
	}
}

// spoiling is a way to make a shape wrong, and the reason that is told then.
type spoiling struct {
	reason api.Errno
	spoil  func(s *api.Shape)
}

// spoilings are, of a kind, ways to make a right shape wrong, in the order in which their reasons are told. What changes a list's length stands ahead of what changes its elements, so that both can be done.
func spoilings(kind api.ShapeKind) []spoiling {
	set := func(i int, p api.Point) func(s *api.Shape) {
		return func(s *api.Shape) {
			if i < len(s.Verts) {
				s.Verts[i] = p
			}
		}
	}
	list := []spoiling{
		{api.ErrKind, func(s *api.Shape) { s.Kind = 0 }},
		{api.ErrKind, func(s *api.Shape) { s.Kind = 9 }},
	}
	holed := spoiling{api.ErrForeign, func(s *api.Shape) { s.Holes = [][]api.Point{square(0, 0, 1)} }}
	sized := spoiling{api.ErrForeign, func(s *api.Shape) { s.Size = -7 }}
	longer := func(e api.Errno) spoiling {
		return spoiling{e, func(s *api.Shape) { s.Verts = append(s.Verts, make([]api.Point, 70)...) }}
	}
	none := func(e api.Errno) spoiling { return spoiling{e, func(s *api.Shape) { s.Verts = nil }} }
	size := spoiling{api.ErrSize, func(s *api.Shape) { s.Size = -1 }}
	switch kind {
	case api.Poly:
		list = append(list, sized, none(api.ErrVerts), longer(api.ErrVerts))
		list = append(list, spoiling{api.ErrBound, set(1, at(least, 0))}, spoiling{api.ErrSame, set(1, at(0, 0))}, spoiling{api.ErrFold, set(2, at(5, 0))}, spoiling{api.ErrCross, set(3, at(12, -1))})
		return append(list, holeSpoilings()...)
	case api.Disc:
		return append(list, holed, none(api.ErrForeign), longer(api.ErrForeign), spoiling{api.ErrBound, set(0, at(0, bound+1))}, size)
	case api.Rect:
		return append(list, holed, sized, none(api.ErrForeign), longer(api.ErrForeign), spoiling{api.ErrBound, set(1, at(bound+1, 0))}, spoiling{api.ErrCorners, set(0, at(20, 20))})
	}
	return append(list, holed, none(api.ErrBends), longer(api.ErrBends), spoiling{api.ErrBound, set(2, at(0, -bound-1))}, spoiling{api.ErrBends, set(1, at(0, 0))}, size)
}

// holeSpoilings go on behind what can be wrong with a Poly's Verts.
func holeSpoilings() []spoiling {
	hole := func(i int, v []api.Point) func(s *api.Shape) {
		return func(s *api.Shape) { s.Holes[i] = v }
	}
	return []spoiling{
		{api.ErrHoles, func(s *api.Shape) {
			for len(s.Holes) < 9 {
				s.Holes = append(s.Holes, square(1, 1, 1))
			}
		}},
		{api.ErrVerts, hole(0, of(1, 1))},
		{api.ErrCross, hole(1, of(3, 3, 4, 4, 4, 3, 3, 4))},
		{api.ErrHole, hole(2, square(30, 30, 1))},
		{api.ErrHole, hole(3, square(11, 5, 3))},
		{api.ErrHole, hole(4, square(7, 1, 2))},
	}
}

// P9.1: each reason ahead of those that stand behind it.
func TestCheckOrder(t *testing.T) {
	poly := polyOf(square(0, 0, 12), square(1, 1, 1), square(3, 1, 1), square(5, 1, 1), square(7, 1, 1), square(9, 1, 1))
	for _, s := range []api.Shape{poly, discOf(0, 0, 5), rectOf(0, 0, 9, 9), corridorOf(2, 0, 0, 10, 0, 10, 10)} {
		list := spoilings(s.Kind)
		for i, first := range list {
			one := cloned(s)
			first.spoil(&one)
			if got := Check(one); got != first.reason {
				t.Errorf("%s: %d, want %d", text(one), got, first.reason)
			}
			for _, second := range list[i+1:] {
				// The later one first, as what changes a list's length would hide it.
				two := cloned(s)
				second.spoil(&two)
				first.spoil(&two)
				if got := Check(two); got != first.reason && two.Kind == one.Kind {
					t.Errorf("%s: %d, want %d", text(two), got, first.reason)
				}
			}
		}
		if got := Check(s); got != api.OK {
			t.Errorf("%s: %d", text(s), got)
		}
	}
}

// anyShape is a shape on few points, or next to the lattice's edge, that may be wrong in any way.
func anyShape(r *rand.Rand) api.Shape {
	coordinate := func() int32 {
		if r.Intn(60) == 0 {
			return pick(r, []int32{least, -bound - 1, -bound, bound, bound + 1, greatest})
		}
		return int32(r.Intn(7))
	}
	list := func(n int) []api.Point {
		var v []api.Point
		for range n {
			v = append(v, at(coordinate(), coordinate()))
		}
		return v
	}
	s := api.Shape{Kind: api.ShapeKind(1 + r.Intn(4))}
	if r.Intn(30) == 0 {
		s.Kind = api.ShapeKind(r.Intn(256))
	}
	s.Verts = list(r.Intn(5))
	switch s.Kind {
	case api.Disc:
		s.Verts, s.Size = list(1), coordinate()
	case api.Rect:
		s.Verts = list(2)
	case api.Corridor:
		s.Verts, s.Size = list(pick(r, []int{1, 2, 2, 3, 4, 16, 17})), coordinate()-1
	case api.Poly:
		s.Verts = square(-1, -1, int32(3+r.Intn(9)))
		for range pick(r, []int{0, 1, 2, 2, 3}) {
			s.Holes = append(s.Holes, list(3+r.Intn(2)))
		}
	}
	if r.Intn(20) == 0 {
		s.Size = coordinate() - 1
	}
	if r.Intn(30) == 0 {
		s.Verts = list(r.Intn(5))
	}
	if r.Intn(30) == 0 {
		s.Holes = append(s.Holes, list(r.Intn(5)))
	}
	return s
}

// P9.1, P9.2, P9.3
func TestCheckByTheWords(t *testing.T) {
	r := rand.New(rand.NewSource(5))
	seen := map[api.Errno]int{}
	for range 30000 {
		s := anyShape(r)
		want := wanted(s)
		seen[want]++
		if got := Check(s); got != want {
			t.Errorf("%s: %d, want %d", text(s), got, want)
		}
		a, e := Of(s)
		b, ok := Bounds(s)
		if e != want || (a == nil) != (want != api.OK) || ok != (want == api.OK) {
			t.Errorf("%s: Of %v, %d; Bounds %v, want %d", text(s), a, e, ok, want)
		}
		p, q := at(int32(r.Intn(7)), int32(r.Intn(7))), at(int32(r.Intn(7)), int32(r.Intn(7)))
		if a == nil {
			if Covers(s, p) || Meets(s, p, q) || b != (api.Box{}) {
				t.Errorf("%s: something is told of no shape", text(s))
			}
			continue
		}
		if Covers(s, p) != a.Covers(p) || Meets(s, p, q) != a.Meets(p, q) || b != a.Bounds() {
			t.Errorf("%s: not what its Area tells", text(s))
		}
	}
	for _, e := range []api.Errno{api.OK, api.ErrKind, api.ErrForeign, api.ErrSize, api.ErrCorners, api.ErrBends, api.ErrHole, api.ErrVerts, api.ErrBound, api.ErrSame, api.ErrFold, api.ErrCross} {
		if seen[e] < 30 {
			t.Errorf("the reason %d: %d times", e, seen[e])
		}
	}
}

// P9.1: no hole may touch, wherever it lies and whichever of its points is first.
func TestHolesByTheWords(t *testing.T) {
	r := rand.New(rand.NewSource(6))
	var seen [2]int
	for range 6000 {
		s := polyOf(pick(r, [][]api.Point{square(0, 0, 8), of(0, 0, 8, 0, 8, 8, 5, 8, 5, 3, 3, 3, 3, 8, 0, 8), of(0, 4, 4, 0, 8, 4, 4, 8)}))
		for range 1 + r.Intn(3) {
			h := moved(pick(r, [][]api.Point{square(0, 0, 1), square(0, 0, 2), of(0, 0, 1, 0, 0, 1), of(0, 0, 3, 0, 3, 2, 2, 2, 2, 1, 1, 1, 1, 2, 0, 2), of(0, 1, 1, 0, 2, 1, 1, 2)}), at(int32(r.Intn(8)), int32(r.Intn(8))))
			s.Holes = append(s.Holes, begun(h, r.Intn(len(h))))
		}
		want := wanted(s)
		seen[number(want == api.OK)]++
		if got := Check(s); got != want {
			t.Errorf("%s: %d, want %d", text(s), got, want)
		}
	}
	if min(seen[0], seen[1]) < 300 {
		t.Errorf("not both answers are asked for: %v", seen)
	}
}

// P9.1: a right shape has all its points on the lattice.
func TestRightIsOfTheLattice(t *testing.T) {
	for _, s := range right() {
		if Check(s) != api.OK {
			t.Errorf("%s: %d", text(s), Check(s))
		}
		for _, v := range append([][]api.Point{s.Verts}, s.Holes...) {
			for i := range v {
				for _, off := range beyond() {
					w := cloned(s)
					for _, list := range append([][]api.Point{w.Verts}, w.Holes...) {
						if slices.Equal(list, v) {
							list[i] = off
						}
					}
					if Check(w) != api.ErrBound || point.In(off) {
						t.Errorf("%s: %d", text(w), Check(w))
					}
				}
			}
		}
	}
}

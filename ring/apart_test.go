package ring

import (
	"math/rand"
	"slices"
	"testing"

	"paddock/api"
)

// meets tells whether an edge of v has a point in common with one of w, by the words.
func meets(v, w []api.Point) bool {
	found := false
	for i, a := range v {
		b := v[(i+1)%len(v)]
		for j, c := range w {
			d := w[(j+1)%len(w)]
			if ofLattice(a) && ofLattice(b) && ofLattice(c) && ofLattice(d) && common(a, b, c, d) > 0 {
				found = true
			}
		}
	}
	return found
}

// P6.6
func TestApart(t *testing.T) {
	r := rand.New(rand.NewSource(3))
	list := lists()
	var seen [2]int
	for range 40000 {
		v, w := list[r.Intn(len(list))], list[r.Intn(len(list))]
		if r.Intn(2) == 0 && len(v) > 0 {
			// Near by, so that it is not told by their places alone.
			w = picked(r, r.Intn(5), append(slices.Clone(v), at(0, 0), at(1, 1), at(edge, 5), at(0, edge+1)))
		}
		apart := !meets(v, w)
		if apart {
			seen[1]++
		} else {
			seen[0]++
		}
		if Apart(v, w) != apart || Apart(w, v) != apart {
			t.Errorf("Apart of %v and %v is not %v", text(v), text(w), apart)
		}
	}
	if seen[0] < 1000 || seen[1] < 1000 {
		t.Errorf("not both answers are asked for: %v", seen)
	}
}

// P6.6
func TestApartByHand(t *testing.T) {
	square := of(0, 0, 4, 0, 4, 4, 0, 4)
	beyond := of(edge+1, -5, 1, -5, 1, 9)
	for _, x := range []struct {
		what string
		v, w []api.Point
		want bool
	}{
		{"one in the other", square, of(1, 1, 2, 1, 1, 2), true},
		{"in one corner", square, of(4, 4, 5, 4, 5, 5), false},
		{"a vertex on an edge", square, of(4, 2, 5, 1, 5, 3), false},
		{"a vertex on the last edge", square, of(0, 2, -1, 1, -1, 3), false},
		{"by the last edge of the other", square, of(-1, 3, -3, 2, -1, 1), true},
		{"its last edge alone", square, of(1, 1, 3, 1, 2, 2, 2, 4), false},
		{"one beside the other", square, of(5, 0, 9, 0, 5, 4), true},
		{"along one another", square, of(1, 4, 3, 4, 2, 6), false},
		{"crossing", square, of(2, 2, 6, 2, 2, 9), false},
		{"itself", square, square, false},
		{"turned about", square, turned(square), false},
		{"none", square, nil, true},
		{"none and none", nil, []api.Point{}, true},
		{"a point on it", square, of(4, 1), false},
		{"a point in it", square, of(2, 2), true},
		{"a point and itself", of(3, 3), of(3, 3), false},
		{"two points", of(3, 3), of(3, 4), true},
		{"a way through it", square, of(-1, 1, 9, 2), false},
		{"a way in it", square, of(1, 1, 3, 3), true},
		{"a point beyond the lattice and itself", of(edge+1, 0), of(edge+1, 0), true},
		{"one beyond, that would cross", square, of(2, 2, 2, edge+1), true},
		{"one beyond, with one edge that is not", square, beyond, false},
		{"all beyond", of(least, least, greatest, least, 0, greatest), of(least, 0, greatest, 0, 0, greatest), true},
		{"at the lattice's edge", of(-edge, -edge, edge, edge, edge, -edge), of(-edge, edge, -1, 0, -edge, 1-edge), true},
		{"at the lattice's edge, touching", of(-edge, -edge, edge, edge, edge, -edge), of(-edge, edge, 0, 0, -edge, 1-edge), false},
		{"65 points and more", make([]api.Point, 1000), make([]api.Point, 1000), false},
		{"many points apart", make([]api.Point, 1000), slices.Repeat(of(1, 0), 1000), true},
		{"the last edges alone", append(slices.Repeat(of(5, 5), 500), at(5, 9)), append(slices.Repeat(of(7, 7), 500), at(3, 7)), false},
	} {
		if Apart(x.v, x.w) != x.want || Apart(x.w, x.v) != x.want {
			t.Errorf("%s: not %v", x.what, x.want)
		}
	}
}

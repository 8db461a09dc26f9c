package ring

import (
	"math/rand"
	"slices"
	"testing"

	"paddock/api"
)

// lists are lists of all kinds: those of rings(), these with something made wrong, all of three and four points on a small grid, of any number of points, of the lattice or not.
func lists() [][]api.Point {
	r := rand.New(rand.NewSource(1))
	list := append(tuples(3, grid(-1, 0, 1)), tuples(4, grid(-1, 0, 1))...)
	rim := grid(least, -edge-1, -edge, 0, edge, edge+1, greatest)
	for range 3000 {
		list = append(list, picked(r, 3+r.Intn(5), grid(-2, -1, 0, 1, 2)), picked(r, 3+r.Intn(4), grid(-edge, 1-edge, 0, edge-1, edge)))
		list = append(list, picked(r, r.Intn(6), rim), picked(r, r.Intn(70), grid(-1000, 7, edge)))
	}
	for _, v := range rings() {
		list = append(list, v, spoilt(r, v))
	}
	return list
}

// spoilt is a list with one thing done to it.
func spoilt(r *rand.Rand, v []api.Point) []api.Point {
	w, i, j := slices.Clone(v), r.Intn(len(v)), r.Intn(len(v))
	switch r.Intn(6) {
	case 0:
		w[i] = w[j]
	case 1:
		w[i], w[j] = w[j], w[i]
	case 2:
		w[i] = spread(r, edge)
	case 3:
		w[i] = at(w[j].X, edge+1)
	case 4:
		w = slices.Insert(w, i, w[j])
	case 5:
		if half, ok := halved(w, i); ok {
			w = slices.Insert(w, j, half[i+1])
		}
	}
	return w
}

// P6.1
func TestCheck(t *testing.T) {
	seen := map[api.Errno]int{}
	second, closing := 0, 0
	for _, v := range lists() {
		want := wrong(v)
		seen[want.reason]++
		if len(faults(v)) > 1 {
			second++
		}
		if want.reason == api.ErrFold && want.i == 0 && want.j == len(v)-1 && want.j > 1 {
			closing++
		}
		if got := checked(v); got != want {
			t.Errorf("Check of %v: %v, want %v", text(v), got, want)
		}
	}
	for _, reason := range []api.Errno{api.OK, api.ErrVerts, api.ErrBound, api.ErrSame, api.ErrFold, api.ErrCross} {
		if seen[reason] < 100 {
			t.Errorf("the reason %d is asked for %d times alone", reason, seen[reason])
		}
	}
	if second == 0 || closing == 0 {
		t.Error("nothing has two faults, or nothing folds back at the first vertex")
	}
}

// P6.1
func TestCheckByHand(t *testing.T) {
	for _, x := range []struct {
		what string
		v    []api.Point
		want fault
	}{
		{"a square", of(0, 0, 4, 0, 4, 4, 0, 4), fault{}},
		{"turned about", of(0, 4, 4, 4, 4, 0, 0, 0), fault{}},
		{"a triangle", of(0, 0, 1, 0, 0, 1), fault{}},
		{"three in a row", of(0, 0, 2, 0, 4, 0, 0, 4), fault{}},
		{"four in a row", of(0, 0, 1, 0, 2, 0, 4, 0, 0, 4), fault{}},
		{"a row through the first vertex", of(2, 0, 4, 0, 4, 4, 0, 0), fault{}},
		{"not convex", of(0, 0, 4, 0, 4, 4, 3, 1), fault{}},
		{"the whole lattice", of(-edge, -edge, edge, -edge, edge, edge, -edge, edge), fault{}},
		{"as thin as can be", of(-edge, -edge, edge, edge-1, edge, edge), fault{}},
		{"two edges a step apart", of(0, 0, edge, edge, edge, edge-1, 1, 0), fault{}},

		{"none", nil, fault{api.ErrVerts, 0, 0}},
		{"an empty list", []api.Point{}, fault{api.ErrVerts, 0, 0}},
		{"one point", of(1, 1), fault{api.ErrVerts, 0, 0}},
		{"two points", of(0, 0, 4, 0), fault{api.ErrVerts, 0, 0}},
		{"two points beyond the lattice", of(least, 0, edge+1, 0), fault{api.ErrVerts, 0, 0}},
		{"64 points", ribbon(32, 1, 5), fault{}},
		{"65 points", append(ribbon(32, 1, 5), at(-1, 0)), fault{api.ErrVerts, 0, 0}},
		{"65 times one point", make([]api.Point, 65), fault{api.ErrVerts, 0, 0}},
		{"64 times one point", make([]api.Point, 64), fault{api.ErrSame, 0, 1}},
		{"65 points beyond the lattice", slices.Repeat(of(greatest, greatest), 65), fault{api.ErrVerts, 0, 0}},
		{"very many", make([]api.Point, 1<<20), fault{api.ErrVerts, 0, 0}},

		{"one beyond", of(0, 0, 4, 0, edge+1, 0), fault{api.ErrBound, 2, 0}},
		{"one beyond, at the first", of(-edge-1, 0, 4, 0, 0, 5), fault{api.ErrBound, 0, 0}},
		{"one beyond, below", of(0, 0, 4, -edge-1, 0, 5), fault{api.ErrBound, 1, 0}},
		{"far beyond", of(0, 0, 4, 0, 0, least), fault{api.ErrBound, 2, 0}},
		{"far beyond, above", of(0, 0, 4, 0, 0, 7, greatest, greatest), fault{api.ErrBound, 3, 0}},
		{"two beyond", of(0, 0, greatest, 0, 0, least), fault{api.ErrBound, 1, 0}},
		{"beyond, behind a point twice", of(0, 0, 0, 0, 0, 4, edge+1, 1), fault{api.ErrBound, 3, 0}},
		{"a point twice beyond", of(edge+1, 0, edge+1, 0, 0, 4), fault{api.ErrBound, 0, 0}},
		{"beyond, behind a crossing", of(0, 0, 4, 4, 4, 0, 0, 4, 0, edge+1), fault{api.ErrBound, 4, 0}},

		{"a point twice", of(0, 0, 4, 0, 4, 0, 0, 4), fault{api.ErrSame, 1, 2}},
		{"the last one as the first", of(0, 0, 4, 0, 0, 4, 0, 0), fault{api.ErrSame, 3, 0}},
		{"two points twice", of(0, 0, 4, 0, 4, 0, 0, 4, 0, 4), fault{api.ErrSame, 1, 2}},
		{"a point twice, and the last one as the first", of(0, 0, 4, 0, 0, 4, 0, 4, 0, 0), fault{api.ErrSame, 2, 3}},
		{"all in one point", of(1, 1, 1, 1, 1, 1), fault{api.ErrSame, 0, 1}},
		{"a point twice behind a fold", of(0, 0, 4, 0, 2, 0, 2, 0), fault{api.ErrSame, 2, 3}},
		{"a point twice behind a crossing", of(0, 0, 4, 4, 4, 0, 0, 4, 0, 4), fault{api.ErrSame, 3, 4}},

		{"there and back", of(0, 0, 4, 0, 2, 0), fault{api.ErrFold, 0, 1}},
		{"there and all the way back", of(0, 0, 4, 0, 0, 0, 0, 4), fault{api.ErrFold, 0, 1}},
		{"there and farther back", of(0, 0, 4, 0, -4, 0, 0, 4), fault{api.ErrFold, 0, 1}},
		{"three on one line", of(0, 0, 2, 0, 4, 0), fault{api.ErrFold, 0, 2}},
		{"three on one line, begun in the midst", of(2, 2, 4, 4, 0, 0), fault{api.ErrFold, 0, 1}},
		{"a spike at the first one", of(0, 0, 4, 0, 4, -4, 8, 0), fault{api.ErrFold, 0, 3}},
		{"a spike at the last one", of(0, 0, 4, 0, 4, 4, 8, 0), fault{api.ErrFold, 0, 3}},
		{"a spike in the midst", of(0, 0, 4, 0, 4, 4, 4, 2, 0, 4), fault{api.ErrFold, 1, 2}},
		{"a spike behind a crossing", of(0, 0, 4, 4, 4, 0, 0, 4, 0, 8, 0, 2), fault{api.ErrCross, 0, 2}},
		{"a spike ahead of a crossing", of(0, 0, 4, 0, 2, 0, 2, 4, 3, -1), fault{api.ErrFold, 0, 1}},
		{"a long spike", of(-edge, -edge, edge, edge, 0, 0, 0, -1), fault{api.ErrFold, 0, 1}},

		{"crossing", of(0, 0, 4, 4, 4, 0, 0, 4), fault{api.ErrCross, 0, 2}},
		{"crossing at the other two", of(0, 0, 4, 0, 0, 4, 4, 4), fault{api.ErrCross, 1, 3}},
		{"crossing over the whole lattice", of(-edge, -edge, edge, edge, edge, -edge, -edge, edge), fault{api.ErrCross, 0, 2}},
		{"a vertex on another edge", of(0, 0, 4, 0, 4, 4, 2, 0, 0, 4), fault{api.ErrCross, 0, 2}},
		{"a vertex on the last edge", of(0, 0, 4, 0, 4, 4, 0, 2, 2, 4, 0, 4), fault{api.ErrCross, 2, 5}},
		{"two vertices in one point", of(0, 0, 2, 2, 4, 0, 4, 4, 2, 2, 0, 4), fault{api.ErrCross, 0, 3}},
		{"edges along one another", of(0, 0, 4, 0, 4, 4, 3, 0, 1, 0, 0, 4), fault{api.ErrCross, 0, 2}},
		{"an edge twice", of(0, 0, 4, 0, 4, 4, 0, 0, 4, 0, 2, -4), fault{api.ErrCross, 0, 2}},
		{"the first and the last but one", of(0, 0, 4, 0, 4, 4, 1, -1, -1, 1), fault{api.ErrCross, 0, 2}},
	} {
		if got := checked(x.v); got != x.want {
			t.Errorf("%s: %v, want %v", x.what, got, x.want)
		}
	}
}

// P6.1
func TestCheckAtTheLatticesEdge(t *testing.T) {
	for _, by := range []api.Point{at(1, 0), at(-1, 0), at(0, 1), at(0, -1), at(greatest-edge, 0), at(0, least+edge)} {
		for i := range 4 {
			v := of(-edge, -edge, edge, -edge, edge, edge, -edge, edge)
			v[i].X += by.X
			v[i].Y += by.Y
			want := fault{}
			if !ofLattice(v[i]) {
				want = fault{api.ErrBound, i, 0}
			}
			if got := checked(v); got != want {
				t.Errorf("%v: %v, want %v", text(v), got, want)
			}
		}
	}
}

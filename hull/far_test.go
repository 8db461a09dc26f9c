package hull

import (
	"math"
	"math/rand"
	"slices"
	"testing"

	"paddock/api"
	"paddock/point"
)

// wantFar fails, unless Far tells these places, and layer 4's Dist2 of them.
func wantFar(t *testing.T, v []api.Point, i, j int) {
	t.Helper()
	var d2 int64
	if len(v) > 1 {
		d2 = point.Dist2(v[i], v[j])
	}
	if gotI, gotJ, got := Far(v); gotI != i || gotJ != j || got != d2 {
		t.Errorf("Far(%v): %d, %d, %d, want %d, %d, %d", v[:min(len(v), 20)], gotI, gotJ, got, i, j, d2)
	}
}

// P10.4
func TestFar(t *testing.T) {
	several, beyond := 0, 0
	for _, v := range lists() {
		i, j := wantedFar(v)
		wantFar(t, v, i, j)
		if len(v) < 2 {
			continue
		}
		most := apart2(v[i], v[j])
		if most.BitLen() > 63 {
			beyond++
		}
		if k, l := wantedFar(reversed(v)); v[len(v)-1-l] != v[i] && v[len(v)-1-k] != v[j] {
			several++
		}
	}
	if several < 100 || beyond < 100 {
		t.Errorf("%d have several pairs, %d are as far apart as no int64 tells", several, beyond)
	}
}

// P10.4
func TestFarByHand(t *testing.T) {
	for _, x := range []struct {
		v    []api.Point
		i, j int
		d2   int64
	}{
		{nil, 0, 0, 0},
		{[]api.Point{}, 0, 0, 0},
		{of(5, 5), 0, 0, 0},
		{of(5, 5, 5, 5), 0, 1, 0},
		{of(5, 5, 5, 5, 5, 5, 5, 5), 0, 1, 0},
		{of(0, 0, 3, 4), 0, 1, 25},
		{of(3, 4, 0, 0), 0, 1, 25},
		{of(0, 0, 0, 0, 3, 4, 3, 4), 0, 2, 25},
		{of(0, 0, 3, 0, 0, 3, 3, 3), 0, 3, 18},
		{of(3, 0, 0, 0, 0, 3, 3, 3), 0, 2, 18},
		{of(1, 1, 0, 0, 3, 0, 0, 3, 3, 3), 1, 4, 18},
		{of(1, 1, 2, 2, 3, 0, 0, 0, 3, 3, 0, 3), 2, 5, 18},
		{of(0, 0, 2, 2, 1, 1, 4, 4, 3, 3), 0, 3, 32},
		{of(3, 3, 2, 2, 1, 1, 4, 4, 0, 0), 3, 4, 32},
		{of(7, 0, 2, 0, 9, 0, -1, 0, 9, 0, -1, 0), 2, 3, 100},
		{of(6, -1, 6, 8, 6, 0, 6, 8, 6, -1), 0, 1, 81},
		{of(0, 0, 10, 0, 5, 8), 0, 1, 100},
		{of(0, 0, 10, 0, 5, 9), 0, 2, 106},
		// All of a quarter's arc are as far from its middle, at any place of it in the list.
		{of(56, 33, 63, 16, 0, 0, 65, 0, 60, 25), 0, 2, 4225},
		{of(0, 0, 56, 33, 63, 16, 65, 0, 60, 25), 0, 1, 4225},
		{of(9, 9, 0, 0, 60, 25, 63, 16, 65, 0), 1, 2, 4225},
		{of(9, 9, 60, 25, 63, 16, 65, 0, 0, 0), 1, 4, 4225},
		{of(-edge, -edge, edge, edge), 0, 1, 8 * edge * edge},
		{of(edge, -edge, 0, 0, -edge, edge, edge, edge, -edge, -edge), 0, 2, 8 * edge * edge},
		// Where the square of the distance goes round.
		{of(0, 0, -greatest, -greatest, greatest, greatest, greatest, 0), 1, 2, 8 - 1<<35},
		{of(0, 0, least, least, greatest, least, 0, greatest, greatest, greatest), 1, 4, 2 - 1<<34},
		{of(least, 0, 0, 0, greatest, 0), 0, 2, 1 - 1<<33},
		{of(least, 0, greatest, 1, greatest, 0), 0, 1, 2 - 1<<33},
		{of(least, 0, 0, 0, 0, -greatest), 0, 2, math.MaxInt64 - 1<<32 + 2},
		{of(least, 0, 0, 0, 0, least), 0, 2, math.MinInt64},
	} {
		if i, j, d2 := Far(x.v); i != x.i || j != x.j || d2 != x.d2 {
			t.Errorf("Far(%v): %d, %d, %d, want %d, %d, %d", x.v, i, j, d2, x.i, x.j, x.d2)
		}
	}
}

// P10.4: of several pairs the first, in any order of the points.
func TestFarOfSeveral(t *testing.T) {
	r := rand.New(rand.NewSource(3))
	for range 40 {
		for _, n := range []int32{1, 5, 25, 325, 5525} {
			v := shuffled(r, append(circle(n), circle(n)...))
			i, j := wantedFar(v)
			wantFar(t, v, i, j)
		}
		arc := of(0, 0, 65, 0, 63, 16, 60, 25, 56, 33, 52, 39, 39, 52)
		v := shuffled(r, append(arc, grid(30, 32, 34)...))
		i, j := wantedFar(v)
		wantFar(t, v, i, j)
	}
}

// P10.4: many corners, and many points that are none.
func TestFarOfMany(t *testing.T) {
	v := parabola(32767)
	wantFar(t, v, 0, 32767)
	wantFar(t, v[1:], 32766, len(v)-2)
	wantFar(t, reversed(v), 0, 32767)
	wantFar(t, slices.Concat(make([]api.Point, 1000), v[1:]), 0, 1000+len(v)-2)
	wantFar(t, make([]api.Point, 100000), 0, 1)
	r := rand.New(rand.NewSource(4))
	for range 3 {
		v := some(500, func() api.Point { return spread(r) })
		i, j := wantedFar(v)
		wantFar(t, v, i, j)
	}
}

// P10.4, P0.1: what is handed in is not changed.
func TestFarLeavesItsList(t *testing.T) {
	for _, v := range [][]api.Point{nil, of(5, 5), of(5, 5, 5, 5), of(4, 4, 0, 0), of(4, 0, 0, 4, 0, 0, 4, 4, 2, 2)} {
		list, all := roomy(v)
		before := slices.Clone(all)
		Far(list)
		if !slices.Equal(all, before) {
			t.Errorf("%v became %v", before, all)
		}
	}
}

// P10.7
func TestFarAreCorners(t *testing.T) {
	corners := 0
	for _, v := range lists() {
		i, j, _ := Far(v)
		if len(v) < 2 || v[i] == v[j] {
			continue
		}
		corners++
		if h := Hull(v); !slices.Contains(h, v[i]) || !slices.Contains(h, v[j]) {
			t.Errorf("Far(%v): %v and %v are no corners of %v", v, v[i], v[j], h)
		}
	}
	if corners == 0 {
		t.Error("none of these has corners")
	}
}

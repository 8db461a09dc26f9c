package grid

import (
	"math/rand"
	"slices"
	"testing"

	"paddock/api"
	"paddock/cell"
)

// P12.3: at a cell's edges and corners; what is in the same cell is told, also where the box itself is elsewhere in it.
func TestAtEdges(t *testing.T) {
	g := made(t, 10)
	put(t, g, 4, box(12, 12, 13, 13))
	put(t, g, 2, box(-10, -10, -1, -1))
	put(t, g, 7, box(19, 19, 20, 20))
	for _, x := range []struct {
		x, y int32
		want []uint32
	}{
		{10, 10, []uint32{4, 7}},
		{19, 19, []uint32{4, 7}},
		{10, 19, []uint32{4, 7}},
		{19, 10, []uint32{4, 7}},
		{9, 10, nil},
		{10, 9, nil},
		{9, 9, nil},
		{20, 19, []uint32{7}},
		{19, 20, []uint32{7}},
		{20, 20, []uint32{7}},
		{29, 29, []uint32{7}},
		{30, 29, nil},
		{29, 30, nil},
		{-1, -1, []uint32{2}},
		{-10, -10, []uint32{2}},
		{-11, -10, nil},
		{-10, -11, nil},
		{0, -1, nil},
		{-1, 0, nil},
		{0, 0, nil},
	} {
		wantTold(t, "At", g.At(at(x.x, x.y)), x.want...)
	}
}

// P12.3: the lattice's ends, and one beyond them, where also what is apart is not told.
func TestAtEnds(t *testing.T) {
	corners := pointsOf(-edge, edge)
	for _, size := range sizes() {
		g := made(t, size)
		for i, p := range corners {
			put(t, g, uint32(i), api.Box{Min: p, Max: p})
		}
		put(t, g, 9, whole())
		for i, p := range corners {
			if l := slices.Collect(g.At(p)); !slices.Contains(l, uint32(i)) || !slices.Contains(l, 9) {
				t.Errorf("cells of %d: At(%v): %v", size, p, l)
			}
		}
		for _, p := range outside() {
			wantTold(t, "At off the lattice", g.At(p))
		}
	}
	g := made(t, 1)
	put(t, g, 3, box(edge, -edge, edge, -edge))
	wantTold(t, "At the corner", g.At(at(edge, -edge)), 3)
	wantTold(t, "At its neighbour", g.At(at(edge-1, -edge)))
}

// P12.4: level, upright, aslant both ways, of one point; cells that the segment only touches, and those of R that it goes past.
func TestCrossingByHand(t *testing.T) {
	g := made(t, 2)
	for id := uint32(0); id < 25; id++ { // the number 5y + x is in the cell (x, y)
		x, y := int32(id%5)*2, int32(id/5)*2
		put(t, g, id, box(x+1, y, x+1, y))
	}
	for _, x := range []struct {
		what string
		p, q api.Point
		want []uint32
	}{
		{"level", at(0, 3), at(5, 3), []uint32{5, 6, 7}},
		{"level, on an edge", at(0, 2), at(5, 2), []uint32{5, 6, 7}},
		{"level, to an edge", at(1, 1), at(4, 1), []uint32{0, 1, 2}},
		{"level, ahead of an edge", at(1, 1), at(3, 1), []uint32{0, 1}},
		{"upright", at(3, 0), at(3, 5), []uint32{1, 6, 11}},
		{"upright, on an edge", at(2, 0), at(2, 5), []uint32{1, 6, 11}},
		{"upright, ahead of an edge", at(2, 1), at(2, 3), []uint32{1, 6}},
		{"rising, through corners", at(0, 0), at(4, 4), []uint32{0, 6, 12}},
		{"falling, through corners", at(0, 4), at(4, 0), []uint32{1, 2, 5, 6, 10}},
		{"rising, flat", at(0, 0), at(9, 3), []uint32{0, 1, 2, 8, 9}},
		{"rising, steep", at(0, 0), at(3, 9), []uint32{0, 5, 10, 16, 21}},
		{"falling, flat", at(0, 3), at(9, 0), []uint32{1, 2, 3, 4, 5, 6}},
		{"falling, steep", at(0, 9), at(3, 0), []uint32{1, 5, 6, 10, 15, 20}},
		{"one point", at(5, 7), at(5, 7), []uint32{17}},
		{"one point on a corner", at(4, 4), at(4, 4), []uint32{12}},
		{"within a cell", at(4, 6), at(5, 7), []uint32{17}},
		{"beside all", at(-1, -5), at(-1, 20), nil},
		{"from outside in", at(-5, 1), at(1, 1), []uint32{0}},
	} {
		wantTold(t, x.what, g.Crossing(x.p, x.q), x.want...)
		wantTold(t, x.what+", backwards", g.Crossing(x.q, x.p), x.want...)
	}
}

// P12.4: a box whose part of R the segment goes past is told, just if they have a cell in common.
func TestCrossingGoesPast(t *testing.T) {
	g := made(t, 10)
	put(t, g, 1, box(0, 90, 5, 95))   // far off the diagonal, in R
	put(t, g, 2, box(58, 52, 58, 52)) // beside it, in a cell of it
	put(t, g, 3, box(61, 59, 61, 59)) // in a cell that it goes past
	put(t, g, 4, whole())
	wantTold(t, "rising", g.Crossing(at(0, 0), at(95, 95)), 2, 4)
	wantTold(t, "falling", g.Crossing(at(0, 95), at(95, 0)), 1, 4)
}

// P12.4: R of MaxCover cells, of which the segment has some; R of more, where all numbers are told.
func TestCrossingLong(t *testing.T) {
	for _, x := range []struct {
		what string
		size int64
		p, q api.Point
		afar api.Point // in no cell of the way
		all  bool
	}{
		{"level, 1024", 1, at(0, 0), at(1023, 0), at(edge, edge-1), false},
		{"level, 1025", 1, at(0, 0), at(1024, 0), at(edge, edge-1), true},
		{"upright, 1024", 1, at(0, -512), at(0, 511), at(edge, edge-1), false},
		{"upright, 1025", 1, at(0, -512), at(0, 512), at(edge, edge-1), true},
		{"rising, 32 by 32", 1, at(-16, -16), at(15, 15), at(edge, edge-1), false},
		{"rising, 33 by 32", 1, at(-16, -16), at(16, 15), at(edge, edge-1), true},
		{"rising, 32 by 33", 1, at(-16, -16), at(15, 16), at(edge, edge-1), true},
		{"falling, 32 by 32", 1, at(-16, 15), at(15, -16), at(edge, edge-1), false},
		{"falling, 25 by 41", 1, at(0, 40), at(24, 0), at(edge, edge-1), true},
		{"level, 1024 cells of 10", 10, at(9, 0), at(10230, 9), at(edge, edge-1), false},
		{"level, 1025 cells of 10", 10, at(9, 0), at(10240, 9), at(edge, edge-1), true},
		{"level, into a second row", 10, at(9, 0), at(10230, 10), at(edge, edge-1), true},
		{"rising, 32 by 32 cells of 10", 10, at(-160, -160), at(159, 159), at(edge, edge-1), false},
		{"one to the left of that", 10, at(-161, -160), at(159, 159), at(edge, edge-1), true},
		{"one below that", 10, at(-160, -161), at(159, 159), at(edge, edge-1), true},
		{"the lattice, of 1", 1, at(-edge, -edge), at(edge, edge), at(edge, edge-1), true},
		{"the lattice, of 2^25", 1 << 25, at(-edge, edge), at(edge, -edge), at(edge, edge-1), true},
		{"the lattice, of 2^26", 1 << 26, at(-edge, edge), at(edge, -edge), at(-edge, -edge), false},
		{"the lattice, of MaxCell", api.MaxCell, at(-edge, edge), at(edge, -edge), at(-edge, -edge), false},
	} {
		soon(t, x.what, func() {
			if many := cell.Count(between(x.p, x.q), x.size) > api.MaxCover; many != x.all {
				t.Errorf("%s: of many cells: %v", x.what, many)
			}
			g := made(t, x.size)
			put(t, g, 8, api.Box{Min: x.p, Max: x.p})
			put(t, g, 5, api.Box{Min: x.q, Max: x.q})
			put(t, g, topmost, api.Box{Min: x.afar, Max: x.afar})
			want := []uint32{5, 8}
			if x.all {
				want = append(want, topmost)
			}
			wantTold(t, x.what, g.Crossing(x.p, x.q), want...)
			wantTold(t, x.what+", backwards", g.Crossing(x.q, x.p), want...)
		})
	}
}

// P12.4: an end off the lattice, either one or both, near and far.
func TestCrossingOutside(t *testing.T) {
	for _, size := range sizes() {
		g := made(t, size)
		put(t, g, 1, box(0, 0, 5, 5))
		put(t, g, 2, whole())
		put(t, g, 3, box(edge, edge, edge, edge))
		for _, p := range outside() {
			for _, q := range append(outside(), at(0, 0), at(edge, edge), at(-edge, 0)) {
				wantTold(t, "Crossing off the lattice", g.Crossing(p, q))
				wantTold(t, "Crossing off the lattice, backwards", g.Crossing(q, p))
			}
		}
	}
}

// P12.3, P12.4: a box that is listed in very many of a segment's cells is told once.
func TestToldOnce(t *testing.T) {
	g := made(t, 1)
	put(t, g, 2, box(0, 0, 1000, 0))
	put(t, g, 1, box(0, 0, 31, 31))
	put(t, g, 0, box(0, 0, 1023, 0))
	put(t, g, 3, whole())
	wantTold(t, "along", g.Crossing(at(0, 0), at(1023, 0)), 0, 1, 2, 3)
	wantTold(t, "aslant", g.Crossing(at(0, 0), at(31, 31)), 0, 1, 2, 3)
	wantTold(t, "beside", g.Crossing(at(31, 0), at(31, 31)), 0, 1, 2, 3)
	wantTold(t, "above", g.Crossing(at(0, 1), at(40, 1)), 1, 3)
	wantTold(t, "one cell", g.At(at(0, 0)), 0, 1, 2, 3)
	wantTold(t, "longer", g.Crossing(at(0, 0), at(1024, 0)), 0, 1, 2, 3)
}

// P12.3, P12.4: left early, gone over again and within itself; each asked no more when it is left.
func TestIterators(t *testing.T) {
	g := made(t, 10)
	for _, id := range []uint32{5, 0, topmost, 9, 2} {
		put(t, g, id, box(0, 0, int32(id%7), 5))
	}
	put(t, g, 4, whole())
	want := []uint32{0, 2, 4, 5, 9, topmost}
	for what, told := range map[string]func(func(uint32) bool){
		"At":              g.At(at(3, 3)),
		"Crossing":        g.Crossing(at(-5, -5), at(5, 5)),
		"a long Crossing": g.Crossing(at(-edge, 0), at(edge, edge)),
	} {
		for n := 1; n <= len(want)+1; n++ {
			var got []uint32
			told(func(id uint32) bool {
				got = append(got, id)
				return len(got) < n
			})
			if !slices.Equal(got, want[:min(n, len(want))]) {
				t.Errorf("%s, left behind %d: %v", what, n, got)
			}
		}
		var about []uint32
		for id := range told {
			about = append(about, id)
			wantTold(t, what+", within itself", told, want...)
		}
		if !slices.Equal(about, want) {
			t.Errorf("%s, about itself: %v", what, about)
		}
	}
	for range g.At(at(25, 25)) {
		break
	}
	wantTold(t, "where nothing is listed", g.At(at(25, 25)), 4)
}

// P12.3, P12.4: what is told is what was there when it was asked, whatever is done to the grid later, or while it is gone over.
func TestToldAsItWas(t *testing.T) {
	g := made(t, 10)
	for id := range uint32(6) {
		put(t, g, id, box(0, 0, 15, 5))
	}
	put(t, g, 6, whole())
	point, way, long := g.At(at(3, 3)), g.Crossing(at(3, 3), at(12, 3)), g.Crossing(at(-edge, 0), at(edge, 0))
	want := []uint32{0, 1, 2, 3, 4, 5, 6}
	still := func(what string) {
		t.Helper()
		wantTold(t, what+": At", point, want...)
		wantTold(t, what+": Crossing", way, want...)
		wantTold(t, what+": a long Crossing", long, want...)
	}
	still("at first")
	put(t, g, 7, box(3, 3, 3, 3))
	put(t, g, 8, whole())
	still("more put in")
	del(t, g, 2)
	del(t, g, 6)
	put(t, g, 6, box(500, 500, 500, 500))
	still("some taken out")
	for id := range uint32(9) {
		if id != 2 {
			del(t, g, id)
		}
	}
	still("all taken out")
	for id := range uint32(9) {
		put(t, g, id+100, box(0, 0, 15, 5))
	}
	still("others put in")
	wantTold(t, "asked anew", g.At(at(3, 3)), 100, 101, 102, 103, 104, 105, 106, 107, 108)
	var got []uint32
	for id := range g.Crossing(at(3, 3), at(12, 3)) {
		got = append(got, id)
		del(t, g, 208-id)
		put(t, g, id+1000, box(0, 0, 15, 5))
	}
	if !slices.Equal(got, []uint32{100, 101, 102, 103, 104, 105, 106, 107, 108}) {
		t.Errorf("changed while it was gone over: %v", got)
	}
}

// P12.6: nothing is missed, whatever the size, by the boxes' own words.
func TestNothingMissed(t *testing.T) {
	r := rand.New(rand.NewSource(2))
	points, ways := 0, 0
	for round := range 400 {
		size := sizes()[round%len(sizes())]
		if round%2 == 0 {
			size = 1 + r.Int63n(api.MaxCell)>>r.Intn(31)
		}
		g := made(t, size)
		boxes := map[uint32]api.Box{}
		for range 20 {
			id, b := r.Uint32(), between(anywhere(r), anywhere(r))
			if r.Intn(2) == 0 {
				b = between(somePoint(r, size), somePoint(r, size))
			}
			boxes[id] = b
			put(t, g, id, b)
		}
		for range 20 {
			p, q := anywhere(r), anywhere(r)
			if r.Intn(2) == 0 {
				p, q = somePoint(r, size), somePoint(r, size)
			}
			atP, onWay := slices.Collect(g.At(p)), slices.Collect(g.Crossing(p, q))
			for id, b := range boxes {
				if hasPoint(b, p) {
					points++
					if !slices.Contains(atP, id) {
						t.Errorf("cells of %d: At(%v) misses %v", size, p, b)
					}
				}
				if hasPart(b, p, q) {
					ways++
					if !slices.Contains(onWay, id) {
						t.Errorf("cells of %d: Crossing(%v, %v) misses %v", size, p, q, b)
					}
				}
			}
		}
	}
	if min(points, ways) < 1000 {
		t.Errorf("%d boxes had a point, %d a part of a way", points, ways)
	}
}

// P12.6: all small boxes, points and ways.
func TestNothingMissedNearby(t *testing.T) {
	points := pointsOf(-4, -3, -1, 0, 2, 3)
	for size := int64(1); size <= 5; size++ {
		g := made(t, size)
		boxes := map[uint32]api.Box{}
		for _, low := range points {
			for _, high := range points {
				b := api.Box{Min: low, Max: high}
				if id := uint32(len(boxes)); g.Put(id, b) == api.OK {
					boxes[id] = b
				}
			}
		}
		for _, p := range points {
			for _, q := range points {
				told := map[uint32]int{}
				for id := range g.Crossing(p, q) {
					told[id]++
				}
				for id, b := range boxes {
					if hasPart(b, p, q) && told[id] != 1 {
						t.Errorf("cells of %d: Crossing(%v, %v) tells %v %d times", size, p, q, b, told[id])
					}
				}
			}
		}
	}
}

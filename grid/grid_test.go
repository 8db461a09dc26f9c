package grid

import (
	"math/rand"
	"testing"

	"paddock/api"
	"paddock/cell"
)

// P12.1 to P12.5: the chapter's table.
func TestExamples(t *testing.T) {
	g := made(t, 10)
	put(t, g, 3, box(0, 0, 9, 9))
	put(t, g, 1, box(5, 5, 15, 5))
	if e := g.Put(3, box(0, 0, 9, 9)); e != api.ErrThere {
		t.Errorf("Put(3, ..): %d", e)
	}
	wantCounts(t, "two boxes", g, 2, 0, 2)
	wantTold(t, "At((9,0))", g.At(at(9, 0)), 1, 3)
	wantTold(t, "At((10,0))", g.At(at(10, 0)), 1)
	wantTold(t, "At((-1,0))", g.At(at(-1, 0)))
	wantTold(t, "Crossing((0,9), (25,9))", g.Crossing(at(0, 9), at(25, 9)), 1, 3)
	wantTold(t, "Crossing((11,0), (25,0))", g.Crossing(at(11, 0), at(25, 0)), 1)
	put(t, g, 2, box(-1000, -1000, 1000, 1000))
	wantCounts(t, "three boxes", g, 3, 1, 2)
	wantTold(t, "At((10^6, 0))", g.At(at(1000000, 0)), 2)
	del(t, g, 1)
	if e := g.Del(1); e != api.ErrGone {
		t.Errorf("Del(1), a second time: %d", e)
	}
	wantCounts(t, "two boxes again", g, 2, 1, 1)
	if e := g.Put(9, box(1, 0, 0, 0)); e != api.ErrBox {
		t.Errorf("Put(9, (1,0) (0,0)): %d", e)
	}
}

// P12.1
func TestNew(t *testing.T) {
	for _, size := range sizes() {
		g := made(t, size)
		wantCounts(t, "a new grid", g, 0, 0, 0)
		wantTold(t, "At of a new grid", g.At(at(0, 0)))
		wantTold(t, "Crossing of a new grid", g.Crossing(at(0, 0), at(5, 5)))
		wantTold(t, "a long Crossing of a new grid", g.Crossing(at(-edge, -edge), at(edge, edge)))
		if e := g.Del(0); e != api.ErrGone {
			t.Errorf("Del of a new grid of %d: %d", size, e)
		}
	}
	for _, size := range noSizes() {
		if g, e := New(size); g != nil || e != api.ErrArg {
			t.Errorf("New(%d): %v, %d", size, g, e)
		}
	}
}

// P12.1: the size that it was handed is the one that the cells have.
func TestNewSize(t *testing.T) {
	for _, size := range sizes() {
		g := made(t, size)
		put(t, g, 4, box(0, 0, 0, 0))
		last := at(int32(min(size-1, edge)), 0)
		wantTold(t, "At the cell's last point", g.At(last), 4)
		if size <= edge {
			wantTold(t, "At the next cell's first point", g.At(at(int32(size), 0)))
		}
		wantTold(t, "At the cell to the left", g.At(at(-1, 0)))
	}
}

// P12.1: grids have nothing in common.
func TestNewApart(t *testing.T) {
	a, b := made(t, 10), made(t, 10)
	put(t, a, 1, box(0, 0, 5, 5))
	put(t, a, 2, whole())
	wantCounts(t, "the other grid", b, 0, 0, 0)
	wantTold(t, "At of the other grid", b.At(at(0, 0)))
	put(t, b, 1, box(20, 20, 20, 20))
	del(t, b, 1)
	wantTold(t, "At of the first grid", a.At(at(0, 0)), 1, 2)
}

// P12.2: each number from the least to the greatest has a place of its own.
func TestPutNumbers(t *testing.T) {
	g := made(t, 10)
	ids := []uint32{topmost, 0, 1 << 31, 7, 1<<31 - 1, topmost - 1, 1}
	for i, id := range ids {
		if e := g.Del(id); e != api.ErrGone {
			t.Errorf("Del(%d) ahead of Put: %d", id, e)
		}
		put(t, g, id, box(0, 0, 25, 5))
		wantCounts(t, "so far", g, i+1, 0, 3)
	}
	wantTold(t, "all", g.At(at(0, 0)), 0, 1, 7, 1<<31-1, 1<<31, topmost-1, topmost)
	for i, id := range ids {
		if e := g.Put(id, box(50, 50, 50, 50)); e != api.ErrThere {
			t.Errorf("Put(%d), a second time: %d", id, e)
		}
		del(t, g, id)
		if e := g.Del(id); e != api.ErrGone {
			t.Errorf("Del(%d), a second time: %d", id, e)
		}
		if g.Len() != len(ids)-i-1 {
			t.Errorf("%d boxes behind Del(%d)", g.Len(), id)
		}
	}
	wantCounts(t, "behind all", g, 0, 0, 0)
	wantTold(t, "none", g.At(at(0, 0)))
}

// P12.2: a box that is not right, ahead of a number that is there; what is refused changes nothing.
func TestPutRefused(t *testing.T) {
	points := pointsOf(-edge, -25, -1, 0, 9, 10, edge)
	for _, size := range sizes() {
		g, w := made(t, size), newWords(size)
		for id, b := range map[uint32]api.Box{3: box(0, 0, 9, 9), 5: whole(), 8: box(-30, -1, -1, 12)} {
			put(t, g, id, b)
			w.put(id, b)
		}
		for _, id := range []uint32{0, 3, 4, 5, topmost} {
			for _, b := range wrongBoxes() {
				if e := g.Put(id, b); e != api.ErrBox {
					t.Errorf("cells of %d: Put(%d, %v): %d", size, id, b, e)
				}
			}
		}
		for _, id := range []uint32{3, 5, 8} {
			for _, b := range []api.Box{{}, box(0, 0, 9, 9), box(5, 5, 300, 300), box(-edge, -edge, edge, edge), box(edge, edge, edge, edge)} {
				if e := g.Put(id, b); e != api.ErrThere {
					t.Errorf("cells of %d: Put(%d, %v): %d", size, id, b, e)
				}
			}
		}
		for _, id := range []uint32{0, 1, 4, 6, 9, topmost} {
			if e := g.Del(id); e != api.ErrGone {
				t.Errorf("cells of %d: Del(%d): %d", size, id, e)
			}
		}
		w.same(t, "behind what was refused", g, points)
	}
}

// P12.2: a number's next box has nothing of the one before it.
func TestPutAgain(t *testing.T) {
	boxes := []api.Box{box(0, 0, 25, 5), whole(), box(-1, -1, 0, 0), box(100, 100, 100, 100), box(-5000, 0, 5000, 0), box(0, 0, 25, 5), box(0, 0, 9, 9)}
	g := made(t, 10)
	for _, b := range boxes {
		put(t, g, 6, b)
		w := newWords(10)
		w.put(6, b)
		w.same(t, "a next box", g, pointsOf(-5000, -1, 0, 5, 10, 29, 100, 5000))
		del(t, g, 6)
	}
	wantCounts(t, "none", g, 0, 0, 0)
}

// P12.5: boxes of MaxCover cells and of one more, lying, standing and square; of one point, of one cell, of the whole lattice.
func TestApart(t *testing.T) {
	for _, x := range []struct {
		what         string
		size         int64
		b            api.Box
		apart, cells int
	}{
		{"a row of 1024", 1, box(-500, 7, 523, 7), 0, 1024},
		{"a row of 1025", 1, box(-500, 7, 524, 7), 1, 0},
		{"a column of 1024", 1, box(7, -500, 7, 523), 0, 1024},
		{"a column of 1025", 1, box(7, -500, 7, 524), 1, 0},
		{"32 by 32", 1, box(-16, -16, 15, 15), 0, 1024},
		{"33 by 32", 1, box(-16, -16, 16, 15), 1, 0},
		{"32 by 33", 1, box(-16, -16, 15, 16), 1, 0},
		{"25 by 41", 1, box(0, 0, 24, 40), 1, 0},
		{"31 by 33", 1, box(0, 0, 30, 32), 0, 1023},
		{"just 32 by 32 cells of 10", 10, box(-160, -160, 159, 159), 0, 1024},
		{"one point more to the left", 10, box(-161, -160, 159, 159), 1, 0},
		{"one point more to the right", 10, box(-160, -160, 160, 159), 1, 0},
		{"one point more down", 10, box(-160, -161, 159, 159), 1, 0},
		{"one point more up", 10, box(-160, -160, 159, 160), 1, 0},
		{"a row of 1024 cells of 10", 10, box(9, 0, 10230, 0), 0, 1024},
		{"a row of 1025 cells of 10", 10, box(9, 0, 10240, 0), 1, 0},
		{"one point", 1, box(-7, 3, -7, 3), 0, 1},
		{"one point of the greatest cells", api.MaxCell, box(-7, 3, -7, 3), 0, 1},
		{"one cell", 10, box(-10, 10, -1, 19), 0, 1},
		{"four cells' corners", 10, box(-1, 9, 0, 10), 0, 4},
		{"the whole lattice, of 1", 1, whole(), 1, 0},
		{"the whole lattice, of 2", 2, whole(), 1, 0},
		{"the whole lattice, 2^25 by 2^25 cells", 1 << 6, whole(), 1, 0},
		{"the whole lattice, 2^16 by 2^16 cells", 1 << 15, whole(), 1, 0},
		{"the whole lattice, 64 by 64 cells", 1 << 25, whole(), 1, 0},
		{"the whole lattice, 32 by 32 cells", 1 << 26, whole(), 0, 1024},
		{"the whole lattice, 34 by 34 cells", 1<<26 - 1, whole(), 1, 0},
		{"the whole lattice, of Bound", edge, whole(), 0, 9},
		{"the whole lattice, of MaxCell", api.MaxCell, whole(), 0, 4},
		{"a quarter of the lattice, of MaxCell", api.MaxCell, box(0, 0, edge, edge), 0, 1},
		{"the lattice's greatest corner", 1, box(edge, edge, edge, edge), 0, 1},
		{"the lattice's least corner", 1, box(-edge, -edge, -edge, -edge), 0, 1},
		{"the lattice's lowest row", 1, box(-edge, -edge, edge, -edge), 1, 0},
	} {
		soon(t, x.what, func() {
			g := made(t, x.size)
			put(t, g, 9, x.b)
			wantCounts(t, x.what, g, 1, x.apart, x.cells)
			del(t, g, 9)
			wantCounts(t, x.what+", taken out", g, 0, 0, 0)
			wantTold(t, x.what+", taken out", g.At(x.b.Min))
			wantTold(t, x.what+", taken out, from end to end", g.Crossing(at(-edge, -edge), at(edge, edge)))
		})
	}
}

// P12.5: cells that several boxes have a part of are counted once, and until the last of these goes.
func TestCells(t *testing.T) {
	g := made(t, 10)
	put(t, g, 1, box(0, 0, 15, 5))
	put(t, g, 2, box(10, 0, 25, 5))
	put(t, g, 3, box(12, 3, 13, 4))
	wantCounts(t, "three", g, 3, 0, 3)
	put(t, g, 4, whole())
	put(t, g, 5, whole())
	wantCounts(t, "five", g, 5, 2, 3)
	del(t, g, 1)
	wantCounts(t, "without 1", g, 4, 2, 2)
	del(t, g, 2)
	wantCounts(t, "without 2", g, 3, 2, 1)
	del(t, g, 4)
	wantCounts(t, "without 4", g, 2, 1, 1)
	del(t, g, 3)
	wantCounts(t, "without 3", g, 1, 1, 0)
	del(t, g, 5)
	wantCounts(t, "without 5", g, 0, 0, 0)
}

// P0.1, P12.2, P12.5: one that is not there, and one that New did not make.
func TestNoGrid(t *testing.T) {
	refused, _ := New(0)
	for what, g := range map[string]*Grid{"nil": nil, "zero": {}, "new": new(Grid), "refused": refused} {
		for _, b := range append(wrongBoxes(), api.Box{}, whole(), box(0, 0, 5, 5)) {
			if e := g.Put(1, b); e != api.ErrNil {
				t.Errorf("%s: Put(1, %v): %d", what, b, e)
			}
		}
		for _, id := range []uint32{0, 1, topmost} {
			if e := g.Del(id); e != api.ErrNil {
				t.Errorf("%s: Del(%d): %d", what, id, e)
			}
		}
		wantCounts(t, what, g, 0, 0, 0)
		for _, p := range append(outside(), at(0, 0), at(edge, -edge)) {
			wantTold(t, what, g.At(p))
			wantTold(t, what, g.Crossing(p, at(0, 0)))
			wantTold(t, what, g.Crossing(at(-edge, -edge), p))
		}
	}
}

// P12.1 to P12.5: putting in and taking out at random, answers and all, against the chapter's words.
func TestAgainstWords(t *testing.T) {
	r := rand.New(rand.NewSource(1))
	refused, apart, listed := 0, 0, 0
	for round := range 60 {
		size := sizes()[round%len(sizes())]
		if round%3 == 0 {
			size = 1 + r.Int63n(40)
		}
		g, w := made(t, size), newWords(size)
		for range 60 {
			id, b := uint32(r.Intn(12)), someBox(r, size)
			if r.Intn(3) == 0 {
				if got, want := g.Del(id), w.del(id); got != want {
					t.Errorf("cells of %d: Del(%d): %d, want %d", size, id, got, want)
				}
			} else if got, want := g.Put(id, b), w.put(id, b); got != want {
				t.Errorf("cells of %d: Put(%d, %v): %d, want %d", size, id, b, got, want)
			} else if want != api.OK {
				refused++
			} else if cell.Count(b, size) > api.MaxCover {
				apart++
			} else {
				listed++
			}
			w.same(t, "at random", g, somePoints(r, size))
		}
	}
	if min(refused, apart, listed) < 100 {
		t.Errorf("%d refused, %d apart, %d listed", refused, apart, listed)
	}
}

// someBox is a box of some cells, or of very many; now and then not a right one.
func someBox(r *rand.Rand, size int64) api.Box {
	switch r.Intn(8) {
	case 0:
		return api.Box{Min: anywhere(r), Max: anywhere(r)}
	case 1:
		return between(anywhere(r), anywhere(r))
	}
	p := somePoint(r, size)
	wide, high := reach(r, size), reach(r, size)
	return box(p.X, p.Y, int32(min(int64(p.X)+wide, edge)), int32(min(int64(p.Y)+high, edge)))
}

// reach is how far a box goes: up to some cells.
func reach(r *rand.Rand, size int64) int64 {
	return r.Int63n(min(4*size, edge)) * r.Int63n(3)
}

// somePoint is one that is some cells off the middle.
func somePoint(r *rand.Rand, size int64) api.Point {
	far := int32(min(5*size, edge))
	return at(about(r, far), about(r, far))
}

// somePoints are points to ask at: near to the middle, at the corners of cells, anywhere, off the lattice.
func somePoints(r *rand.Rand, size int64) []api.Point {
	list := []api.Point{somePoint(r, size), somePoint(r, size), somePoint(r, size), anywhere(r), anywhere(r)}
	corner := func() int32 { return int32(max(min((r.Int63n(7)-3)*size-r.Int63n(2), edge), -edge)) }
	list = append(list, at(corner(), corner()), at(corner(), corner()), at(corner(), corner()))
	if r.Intn(4) == 0 {
		list = append(list, outside()[r.Intn(len(outside()))])
	}
	return list
}

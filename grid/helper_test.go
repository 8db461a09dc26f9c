package grid

import (
	"iter"
	"maps"
	"math"
	"math/big"
	"math/rand"
	"slices"
	"testing"
	"time"

	"paddock/api"
	"paddock/cell"
)

const (
	edge     = api.Bound
	least    = math.MinInt32
	greatest = math.MaxInt32
	topmost  = math.MaxUint32
)

func at(x, y int32) api.Point { return api.Point{X: x, Y: y} }

func box(x, y, z, w int32) api.Box { return api.Box{Min: at(x, y), Max: at(z, w)} }

func whole() api.Box { return box(-edge, -edge, edge, edge) }

// between is the box of two points.
func between(p, q api.Point) api.Box {
	return box(min(p.X, q.X), min(p.Y, q.Y), max(p.X, q.X), max(p.Y, q.Y))
}

// pointsOf are all points whose coordinates are among these.
func pointsOf(coordinates ...int32) []api.Point {
	var list []api.Point
	for _, x := range coordinates {
		for _, y := range coordinates {
			list = append(list, at(x, y))
		}
	}
	return list
}

func onLattice(p api.Point) bool {
	x, y := max(int64(p.X), -int64(p.X)), max(int64(p.Y), -int64(p.Y))
	return max(x, y) <= edge
}

// outside are points that are not of the lattice: one beyond its edge in one coordinate or both, and at the ends of int32.
func outside() []api.Point {
	var list []api.Point
	for _, p := range pointsOf(least, -edge-1, -edge, 0, edge, edge+1, greatest) {
		if !onLattice(p) {
			list = append(list, p)
		}
	}
	return list
}

// wrongBoxes are boxes that are not right.
func wrongBoxes() []api.Box {
	list := []api.Box{
		box(1, 0, 0, 0), box(0, 1, 0, 0), box(1, 1, 0, 0), box(5, 0, 4, 100), box(0, 5, 100, 4),
		box(edge, edge, -edge, -edge), box(edge, -edge, -edge, edge), box(-edge, edge, edge, -edge),
		box(least, least, greatest, greatest), box(greatest, greatest, least, least),
	}
	for _, p := range outside() {
		list = append(list, api.Box{Min: p, Max: p}, api.Box{Min: p, Max: at(edge, edge)}, api.Box{Min: at(-edge, -edge), Max: p})
	}
	return list
}

// sizes are sizes that may be, the least and the greatest among them.
func sizes() []int64 {
	return []int64{1, 2, 3, 7, 10, 1000, 1<<20 + 1, edge - 1, edge, edge + 1, 1<<31 - 1, api.MaxCell}
}

// noSizes are numbers that are no size.
func noSizes() []int64 {
	return []int64{math.MinInt64, math.MinInt64 + 1, -api.MaxCell - 1, -api.MaxCell, -10, -1, 0, api.MaxCell + 1, 1 << 32, 1<<32 + 1, 1<<32 + 10, 1 << 62, math.MaxInt64}
}

// made is a new grid.
func made(t *testing.T, size int64) *Grid {
	t.Helper()
	g, e := New(size)
	if g == nil || e != api.OK {
		t.Fatalf("New(%d): %v, %d", size, g, e)
	}
	return g
}

// put fails, unless the box goes in.
func put(t *testing.T, g *Grid, id uint32, b api.Box) {
	t.Helper()
	if e := g.Put(id, b); e != api.OK {
		t.Errorf("Put(%d, %v): %d", id, b, e)
	}
}

// del fails, unless the number's box comes out.
func del(t *testing.T, g *Grid, id uint32) {
	t.Helper()
	if e := g.Del(id); e != api.OK {
		t.Errorf("Del(%d): %d", id, e)
	}
}

// wantTold fails, unless an iterator tells these numbers.
func wantTold(t *testing.T, what string, told iter.Seq[uint32], want ...uint32) {
	t.Helper()
	if told == nil {
		t.Errorf("%s: no iterator", what)
		return
	}
	if got := slices.Collect(told); !slices.Equal(got, want) {
		t.Errorf("%s: %v, want %v", what, got, want)
	}
}

// wantCounts fails, unless Len, Apart and Cells are these.
func wantCounts(t *testing.T, what string, g *Grid, boxes, apart, cells int) {
	t.Helper()
	if g.Len() != boxes || g.Apart() != apart || g.Cells() != cells {
		t.Errorf("%s: %d boxes, %d apart, %d cells, want %d, %d, %d", what, g.Len(), g.Apart(), g.Cells(), boxes, apart, cells)
	}
}

// soon fails, if what is done takes very much longer than it should.
func soon(t *testing.T, what string, do func()) {
	t.Helper()
	done := make(chan struct{})
	go func() {
		defer close(done)
		do()
	}()
	select {
	case <-done:
	case <-time.After(time.Minute):
		t.Fatalf("%s: still not done", what)
	}
}

// words are the chapter's: which boxes there are, and of what size the cells. What they tell is looked for among all of them, by layer 11's cells.
type words struct {
	size  int64
	boxes map[uint32]api.Box
}

func newWords(size int64) words { return words{size, map[uint32]api.Box{}} }

func (w words) put(id uint32, b api.Box) api.Errno {
	_, there := w.boxes[id]
	switch {
	case !onLattice(b.Min) || !onLattice(b.Max) || b.Min.X > b.Max.X || b.Min.Y > b.Max.Y:
		return api.ErrBox
	case there:
		return api.ErrThere
	}
	w.boxes[id] = b
	return api.OK
}

func (w words) del(id uint32) api.Errno {
	if _, there := w.boxes[id]; !there {
		return api.ErrGone
	}
	delete(w.boxes, id)
	return api.OK
}

func (w words) isApart(b api.Box) bool { return cell.Count(b, w.size) > 1024 }

// counts are how many boxes there are, how many are apart, in how many cells one is listed.
func (w words) counts() (boxes, apart, cells int) {
	listed := map[api.Cell]int{}
	for _, b := range w.boxes {
		if w.isApart(b) {
			apart++
			continue
		}
		for c := range cell.Cover(b, w.size) {
			listed[c]++
		}
	}
	return len(w.boxes), apart, len(listed)
}

// told are the numbers of the boxes that are apart, or of which some cell is one of these.
func (w words) told(cells []api.Cell) []uint32 {
	var list []uint32
	for _, id := range slices.Sorted(maps.Keys(w.boxes)) {
		b := w.boxes[id]
		if w.isApart(b) || slices.ContainsFunc(cells, func(c api.Cell) bool { return w.shares(b, c) }) {
			list = append(list, id)
		}
	}
	return list
}

// shares tells whether a cell has a point of a box: its own points of the lattice are a box too, and what it has beside them no right box reaches alone.
func (w words) shares(b api.Box, c api.Cell) bool {
	s, ok := cell.Square(c, w.size)
	return ok && s.Min.X <= b.Max.X && b.Min.X <= s.Max.X && s.Min.Y <= b.Max.Y && b.Min.Y <= s.Max.Y
}

func (w words) at(p api.Point) []uint32 {
	c, e := cell.Of(p, w.size)
	if e != api.OK || !onLattice(p) {
		return nil
	}
	return w.told([]api.Cell{c})
}

func (w words) crossing(p, q api.Point) []uint32 {
	if !onLattice(p) || !onLattice(q) {
		return nil
	}
	if cell.Count(between(p, q), w.size) > 1024 {
		return slices.Sorted(maps.Keys(w.boxes))
	}
	return w.told(slices.Collect(cell.Line(p, q, w.size)))
}

// same fails, unless a grid answers what the words say, at these points and from each to the next.
func (w words) same(t *testing.T, what string, g *Grid, points []api.Point) {
	t.Helper()
	boxes, apart, cells := w.counts()
	wantCounts(t, what, g, boxes, apart, cells)
	for i, p := range points {
		q := points[(i+1)%len(points)]
		if got, want := slices.Collect(g.At(p)), w.at(p); !slices.Equal(got, want) {
			t.Errorf("%s, cells of %d: At(%v): %v, want %v", what, w.size, p, got, want)
		}
		if got, want := slices.Collect(g.Crossing(p, q)), w.crossing(p, q); !slices.Equal(got, want) {
			t.Errorf("%s, cells of %d: Crossing(%v, %v): %v, want %v", what, w.size, p, q, got, want)
		}
	}
}

// hasPoint tells whether a box has a point.
func hasPoint(b api.Box, p api.Point) bool {
	return b.Min.X <= p.X && p.X <= b.Max.X && b.Min.Y <= p.Y && p.Y <= b.Max.Y
}

// side is on which side of the line from p to q a point is.
func side(p, q api.Point, x, y int32) int {
	difference := func(a, b int32) *big.Int { return big.NewInt(int64(a) - int64(b)) }
	up := new(big.Int).Mul(difference(q.X, p.X), difference(y, p.Y))
	down := new(big.Int).Mul(difference(q.Y, p.Y), difference(x, p.X))
	return up.Cmp(down)
}

// hasPart tells whether a box has a point of the segment from p to q, of real numbers: no upright or level line is between them, and the segment's own line is not past the box.
func hasPart(b api.Box, p, q api.Point) bool {
	r := between(p, q)
	if r.Max.X < b.Min.X || b.Max.X < r.Min.X || r.Max.Y < b.Min.Y || b.Max.Y < r.Min.Y {
		return false
	}
	corners := []int{side(p, q, b.Min.X, b.Min.Y), side(p, q, b.Max.X, b.Min.Y), side(p, q, b.Min.X, b.Max.Y), side(p, q, b.Max.X, b.Max.Y)}
	return slices.Min(corners) <= 0 && slices.Max(corners) >= 0
}

// about is a number from -n to n.
func about(r *rand.Rand, n int32) int32 { return int32(r.Int63n(2*int64(n)+1) - int64(n)) }

// bounded is a number of n bits at most, above 0 or below, n up to 30.
func bounded(r *rand.Rand) int32 { return about(r, edge>>r.Intn(31)) }

// anywhere is a point of the lattice, of any size.
func anywhere(r *rand.Rand) api.Point { return at(bounded(r), bounded(r)) }

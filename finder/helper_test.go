package finder

import (
	"iter"
	"maps"
	"math"
	"math/big"
	"math/rand"
	"slices"
	"testing"

	"paddock/api"
)

const (
	edge     = api.Bound
	least    = math.MinInt32
	greatest = math.MaxInt32
	topmost  = math.MaxUint32
)

func at(x, y int32) api.Point { return api.Point{X: x, Y: y} }

func box(x, y, z, w int32) api.Box { return api.Box{Min: at(x, y), Max: at(z, w)} }

// dot is the box of one point.
func dot(x, y int32) api.Box { return box(x, y, x, y) }

func whole() api.Box { return box(-edge, -edge, edge, edge) }

// between is the least box around two points.
func between(p, q api.Point) api.Box {
	return box(min(p.X, q.X), min(p.Y, q.Y), max(p.X, q.X), max(p.Y, q.Y))
}

// pointsOf are all points whose coordinates are among these.
func pointsOf(coordinates ...int32) []api.Point {
	var list []api.Point
	for _, x := range coordinates {
		for _, y := range coordinates {
			list = append(list, at(x, y))
		}
	}
	return list
}

// isOn tells whether a point is of the lattice, by its words.
func isOn(p api.Point) bool {
	size := func(n int32) int64 { return max(int64(n), -int64(n)) }
	return size(p.X) <= 1<<30-1 && size(p.Y) <= 1<<30-1
}

// outside are points that are not of the lattice: one beyond its edge in one coordinate or both, and at the ends of int32.
func outside() []api.Point {
	return slices.DeleteFunc(pointsOf(least, -edge-1, -edge, 0, edge, edge+1, greatest), isOn)
}

// wrongBoxes are boxes that are not right: corners the wrong way round, in one coordinate or both, or off the lattice.
func wrongBoxes() []api.Box {
	list := []api.Box{
		box(1, 0, 0, 0), box(0, 1, 0, 0), box(1, 1, 0, 0), box(5, 0, 4, 100), box(0, 5, 100, 4),
		box(edge, edge, -edge, -edge), box(edge, -edge, -edge, edge), box(-edge, edge, edge, -edge), box(edge, 0, edge-1, 0),
		box(least, least, greatest, greatest), box(greatest, greatest, least, least), box(-edge-1, -edge-1, edge+1, edge+1),
	}
	for _, p := range outside() {
		list = append(list, api.Box{Min: p, Max: p}, api.Box{Min: p, Max: at(edge, edge)}, api.Box{Min: at(-edge, -edge), Max: p})
	}
	return list
}

// rightBoxes are boxes that are right: of one point, lying, standing, at the lattice's ends, of the whole lattice.
func rightBoxes() []api.Box {
	return []api.Box{
		{}, dot(9, 9), dot(-edge, edge), dot(edge, -edge), dot(edge, edge), dot(-edge, -edge), box(0, 0, 1, 0), box(0, 0, 0, 1),
		box(-5, 7, 300, 7), box(7, -5, 7, 300), box(-edge, 3, edge, 3), box(3, -edge, 3, edge), whole(), box(-edge, -edge, 0, 0), box(edge-1, edge-1, edge, edge),
	}
}

// kind is what New is handed.
type kind struct {
	index int
	size  int64
}

// kinds are all indexes with several sizes, the least and the greatest among them. A size shows, if it does, in what the cells tell: the grid has the most of them.
func kinds() []kind {
	list := []kind{{api.IndexScan, 1}, {api.IndexScan, 10}, {api.IndexScan, api.MaxCell}, {api.IndexTree, 1}, {api.IndexTree, api.MaxCell}}
	for _, size := range []int64{1, 2, 3, 7, 10, 1000, 1<<20 + 1, edge, edge + 1, 1<<31 - 1, api.MaxCell} {
		list = append(list, kind{api.IndexGrid, size})
	}
	return list
}

// fewKinds are one or two of each index.
func fewKinds() []kind {
	return []kind{{api.IndexScan, 1}, {api.IndexGrid, 3}, {api.IndexGrid, 1 << 26}, {api.IndexTree, 5}}
}

// made is a new finder.
func made(t *testing.T, k kind) Finder {
	t.Helper()
	f, e := New(k.index, k.size)
	if f == nil || e != api.OK {
		t.Fatalf("New(%d, %d): %v, %d", k.index, k.size, f, e)
	}
	return f
}

// holding is a new finder with these boxes.
func holding(t *testing.T, k kind, boxes map[uint32]api.Box) Finder {
	t.Helper()
	f := made(t, k)
	for id, b := range boxes {
		put(t, f, id, b)
	}
	return f
}

// put fails, unless the box goes in.
func put(t *testing.T, f Finder, id uint32, b api.Box) {
	t.Helper()
	if e := f.Put(id, b); e != api.OK {
		t.Errorf("Put(%d, %v): %d", id, b, e)
	}
}

// del fails, unless the number's box comes out.
func del(t *testing.T, f Finder, id uint32) {
	t.Helper()
	if e := f.Del(id); e != api.OK {
		t.Errorf("Del(%d): %d", id, e)
	}
}

// wantTold fails, unless an iterator tells these numbers.
func wantTold(t *testing.T, k kind, what string, told iter.Seq[uint32], want ...uint32) {
	t.Helper()
	if told == nil {
		t.Errorf("%v: %s: no iterator", k, what)
		return
	}
	if got := slices.Collect(told); !slices.Equal(got, want) {
		t.Errorf("%v: %s: %v, want %v", k, what, got, want)
	}
}

// wantBoth fails, unless Crossing tells these numbers, from p to q and back.
func wantBoth(t *testing.T, k kind, what string, f Finder, p, q api.Point, want ...uint32) {
	t.Helper()
	wantTold(t, k, what, f.Crossing(p, q), want...)
	wantTold(t, k, what+", back", f.Crossing(q, p), want...)
}

// wantErr fails, unless an answer is this one.
func wantErr(t *testing.T, k kind, what string, got, want api.Errno) {
	t.Helper()
	if got != want {
		t.Errorf("%v: %s: %d, want %d", k, what, got, want)
	}
}

// words are the chapter's: which boxes there are. What they tell is looked for among all of them.
type words map[uint32]api.Box

func (w words) put(id uint32, b api.Box) api.Errno {
	_, there := w[id]
	switch {
	case !isOn(b.Min) || !isOn(b.Max) || b.Min.X > b.Max.X || b.Min.Y > b.Max.Y:
		return api.ErrBox
	case there:
		return api.ErrThere
	case len(w) == 65536:
		return api.ErrFull
	}
	w[id] = b
	return api.OK
}

func (w words) del(id uint32) api.Errno {
	if _, there := w[id]; !there {
		return api.ErrGone
	}
	delete(w, id)
	return api.OK
}

// told are the numbers of the boxes of which something is so, rising.
func (w words) told(so func(b api.Box) bool) []uint32 {
	var list []uint32
	for _, id := range slices.Sorted(maps.Keys(w)) {
		if so(w[id]) {
			list = append(list, id)
		}
	}
	return list
}

func (w words) at(p api.Point) []uint32 {
	return w.told(func(b api.Box) bool { return isOn(p) && hasPoint(b, p) })
}

func (w words) crossing(p, q api.Point) []uint32 {
	return w.told(func(b api.Box) bool { return isOn(p) && isOn(q) && hasPart(b, p, q) })
}

// same fails, unless a finder answers what the words say, at these points and from each to the next.
func (w words) same(t *testing.T, k kind, what string, f Finder, points []api.Point) {
	t.Helper()
	if f.Len() != len(w) {
		t.Errorf("%v: %s: Len: %d, want %d", k, what, f.Len(), len(w))
	}
	for i, p := range points {
		q := points[(i+1)%len(points)]
		wantTold(t, k, what+": At", f.At(p), w.at(p)...)
		wantBoth(t, k, what+": Crossing", f, p, q, w.crossing(p, q)...)
	}
}

// hasPoint tells whether a box covers a point.
func hasPoint(b api.Box, p api.Point) bool {
	return b.Min.X <= p.X && p.X <= b.Max.X && b.Min.Y <= p.Y && p.Y <= b.Max.Y
}

// hasPart tells whether a box has a point of the segment from p to q: whether there is a place along it, a fraction from 0 to 1, at which both coordinates are between those of the box.
func hasPart(b api.Box, p, q api.Point) bool {
	from, to := big.NewRat(0, 1), big.NewRat(1, 1)
	return narrowed(from, to, p.X, q.X, b.Min.X, b.Max.X) && narrowed(from, to, p.Y, q.Y, b.Min.Y, b.Max.Y)
}

// narrowed cuts off the places at which a coordinate that goes from p to q is not between low and high, and tells whether some are left.
func narrowed(from, to *big.Rat, p, q, low, high int32) bool {
	if p == q {
		return low <= p && p <= high
	}
	enters := big.NewRat(int64(low)-int64(p), int64(q)-int64(p))
	leaves := big.NewRat(int64(high)-int64(p), int64(q)-int64(p))
	if p > q {
		enters, leaves = leaves, enters
	}
	if enters.Cmp(from) > 0 {
		from.Set(enters)
	}
	if leaves.Cmp(to) < 0 {
		to.Set(leaves)
	}
	return from.Cmp(to) <= 0
}

// bounded is a number of n bits at most, above 0 or below, n up to 30.
func bounded(r *rand.Rand) int32 {
	n := int64(edge) >> r.Intn(31)
	return int32(r.Int63n(2*n+1) - n)
}

// anywhere is a point of the lattice, of any size.
func anywhere(r *rand.Rand) api.Point { return at(bounded(r), bounded(r)) }

// nearby is a point near to the middle.
func nearby(r *rand.Rand) api.Point { return at(int32(r.Intn(25)-12), int32(r.Intn(25)-12)) }

// somePoint is a point of the lattice, near or anywhere, or now and then one off it.
func somePoint(r *rand.Rand) api.Point {
	switch r.Intn(12) {
	case 0:
		return outside()[r.Intn(len(outside()))]
	case 1, 2, 3, 4:
		return anywhere(r)
	}
	return nearby(r)
}

package tree

import (
	"iter"
	"maps"
	"math"
	"math/bits"
	"math/rand"
	"slices"
	"testing"

	"paddock/api"
)

const (
	edge     = api.Bound
	least    = math.MinInt32
	greatest = math.MaxInt32
	topmost  = math.MaxUint32
)

func at(x, y int32) api.Point { return api.Point{X: x, Y: y} }

func box(x, y, z, w int32) api.Box { return api.Box{Min: at(x, y), Max: at(z, w)} }

// dot is the box of one point.
func dot(x, y int32) api.Box { return box(x, y, x, y) }

// lattice is the box of the whole lattice.
func lattice() api.Box { return box(-edge, -edge, edge, edge) }

// plane is the box of all points that there can be.
func plane() api.Box { return box(least, least, greatest, greatest) }

// between is the least box around two points.
func between(p, q api.Point) api.Box {
	return box(min(p.X, q.X), min(p.Y, q.Y), max(p.X, q.X), max(p.Y, q.Y))
}

// ends are coordinates at the ends of the lattice and of int32, one beside them, and in the middle.
func ends() []int32 { return []int32{least, -edge - 1, -edge, 0, edge, edge + 1, greatest} }

// pointsOf are all points whose coordinates are among these.
func pointsOf(coordinates ...int32) []api.Point {
	var list []api.Point
	for _, x := range coordinates {
		for _, y := range coordinates {
			list = append(list, at(x, y))
		}
	}
	return list
}

// boxesOf are all boxes whose corners are among these points, right or not.
func boxesOf(points []api.Point) []api.Box {
	var list []api.Box
	for _, p := range points {
		for _, q := range points {
			list = append(list, api.Box{Min: p, Max: q})
		}
	}
	return list
}

// wrongBoxes are boxes that are not right.
func wrongBoxes() []api.Box {
	return []api.Box{
		box(1, 0, 0, 0), box(0, 1, 0, 0), box(1, 1, 0, 0), box(5, 0, 4, 100), box(0, 5, 100, 4), box(3, 3, 2, 2),
		box(edge, edge, -edge, -edge), box(edge, -edge, -edge, edge), box(-edge, edge, edge, -edge), box(edge+1, 0, edge, 0),
		box(greatest, greatest, least, least), box(greatest, least, least, greatest), box(least, greatest, greatest, least),
		box(greatest, 0, greatest-1, 0), box(0, least+1, 0, least),
	}
}

// rightBoxes are boxes that are right: of one point, lying, standing, of the whole lattice, with corners off it.
func rightBoxes() []api.Box {
	return []api.Box{
		{}, dot(9, 9), dot(-edge, edge), dot(least, least), dot(greatest, greatest), dot(edge+1, -edge-1), box(0, 0, 1, 0), box(0, 0, 0, 1),
		box(-5, 7, 300, 7), box(7, -5, 7, 300), lattice(), plane(), box(-edge-1, 0, 0, 0), box(0, 0, 0, edge+1), box(least, 5, least, 6),
		box(-edge-1, -edge-1, edge+1, edge+1), box(edge, edge, greatest, greatest), box(least, least, -edge, -edge),
	}
}

// made is a new tree with these boxes.
func made(t *testing.T, boxes map[uint32]api.Box) *Tree {
	t.Helper()
	x := New()
	if x == nil {
		t.Fatal("New: nil")
	}
	for id, b := range boxes {
		put(t, x, id, b)
	}
	return x
}

// put fails, unless the box goes in.
func put(t *testing.T, x *Tree, id uint32, b api.Box) {
	t.Helper()
	if e := x.Put(id, b); e != api.OK {
		t.Errorf("Put(%d, %v): %d", id, b, e)
	}
}

// del fails, unless the number's box comes out.
func del(t *testing.T, x *Tree, id uint32) {
	t.Helper()
	if e := x.Del(id); e != api.OK {
		t.Errorf("Del(%d): %d", id, e)
	}
}

// wantTold fails, unless an iterator tells these numbers.
func wantTold(t *testing.T, what string, told iter.Seq[uint32], want ...uint32) {
	t.Helper()
	if told == nil {
		t.Errorf("%s: no iterator", what)
		return
	}
	if got := slices.Collect(told); !slices.Equal(got, want) {
		t.Errorf("%s: %v, want %v", what, got, want)
	}
}

// pair is a number with its box, as All tells them.
type pair struct {
	id uint32
	b  api.Box
}

func pairs(told iter.Seq2[uint32, api.Box]) []pair {
	var list []pair
	for id, b := range told {
		list = append(list, pair{id, b})
	}
	return list
}

// wantBoxes fails, unless All, Len and Box tell these boxes.
func wantBoxes(t *testing.T, what string, x *Tree, boxes map[uint32]api.Box) {
	t.Helper()
	var want []pair
	for _, id := range slices.Sorted(maps.Keys(boxes)) {
		want = append(want, pair{id, boxes[id]})
		if b, ok := x.Box(id); b != boxes[id] || !ok {
			t.Errorf("%s: Box(%d): %v, %v, want %v", what, id, b, ok, boxes[id])
		}
	}
	if got := pairs(x.All()); !slices.Equal(got, want) {
		t.Errorf("%s: All: %v, want %v", what, got, want)
	}
	if x.Len() != len(boxes) {
		t.Errorf("%s: Len: %d, want %d", what, x.Len(), len(boxes))
	}
}

// wantGone fails, unless a number has no box.
func wantGone(t *testing.T, what string, x *Tree, id uint32) {
	t.Helper()
	if b, ok := x.Box(id); b != (api.Box{}) || ok {
		t.Errorf("%s: Box(%d): %v, %v", what, id, b, ok)
	}
	if e := x.Del(id); e != api.ErrGone {
		t.Errorf("%s: Del(%d): %d", what, id, e)
	}
}

// wantDepth fails, unless a tree is as deep as its nodes are, counted one by one, no deeper than the chapter lets it be, and no flatter than two parts a box can be.
func wantDepth(t *testing.T, what string, x *Tree) {
	t.Helper()
	depth, digits := x.Depth(), bits.Len(uint(x.Len()))
	if counted := longest(x.root); depth != counted {
		t.Errorf("%s: Depth: %d, counted %d", what, depth, counted)
	}
	if depth > 2*digits || depth < digits {
		t.Errorf("%s: Depth of %d boxes: %d", what, x.Len(), depth)
	}
}

// longest is how many nodes stand on the longest way down.
func longest(n *node) int {
	if n == nil {
		return 0
	}
	return 1 + max(longest(n.low), longest(n.high))
}

// wantParts fails, unless each part knows the least box around all that is in it, and no two parts side by side are more than one apart in depth.
func wantParts(t *testing.T, what string, n *node) (api.Box, int) {
	t.Helper()
	if n == nil {
		return api.Box{}, 0
	}
	around, count := n.box, 1
	for _, part := range []*node{n.low, n.high} {
		if b, c := wantParts(t, what, part); c > 0 {
			around = box(min(around.Min.X, b.Min.X), min(around.Min.Y, b.Min.Y), max(around.Max.X, b.Max.X), max(around.Max.Y, b.Max.Y))
			count += c
		}
	}
	if apart := longest(n.low) - longest(n.high); apart < -1 || apart > 1 {
		t.Errorf("%s: below %d: %d and %d deep", what, n.id, longest(n.low), longest(n.high))
	}
	if n.around != around {
		t.Errorf("%s: around %d: %v, want %v", what, n.id, n.around, around)
	}
	return around, count
}

// words are the chapter's: which boxes there are. What they tell is looked for among all of them.
type words map[uint32]api.Box

func (w words) put(id uint32, b api.Box) api.Errno {
	_, there := w[id]
	switch {
	case b.Min.X > b.Max.X || b.Min.Y > b.Max.Y:
		return api.ErrBox
	case there:
		return api.ErrThere
	case len(w) == 65536:
		return api.ErrFull
	}
	w[id] = b
	return api.OK
}

func (w words) del(id uint32) api.Errno {
	if _, there := w[id]; !there {
		return api.ErrGone
	}
	delete(w, id)
	return api.OK
}

// meeting are the numbers whose boxes have a point of a right box: nothing level or upright is between them.
func (w words) meeting(b api.Box) []uint32 {
	var list []uint32
	for _, id := range slices.Sorted(maps.Keys(w)) {
		if o := w[id]; o.Min.X <= b.Max.X && b.Min.X <= o.Max.X && o.Min.Y <= b.Max.Y && b.Min.Y <= o.Max.Y {
			list = append(list, id)
		}
	}
	return list
}

// within are the numbers that Range tells.
func (w words) within(b api.Box) []uint32 {
	if b.Min.X > b.Max.X || b.Min.Y > b.Max.Y {
		return nil
	}
	return w.meeting(b)
}

// same fails, unless a tree answers what the words say, at these points, from each to the next, and in the boxes that have these corners.
func (w words) same(t *testing.T, what string, x *Tree, points []api.Point) {
	t.Helper()
	wantBoxes(t, what, x, w)
	wantDepth(t, what, x)
	wantParts(t, what, x.root)
	for i, p := range points {
		q := points[(i+1)%len(points)]
		wantTold(t, what+": At", x.At(p), w.meeting(between(p, p))...)
		wantTold(t, what+": Crossing", x.Crossing(p, q), w.meeting(between(p, q))...)
		wantTold(t, what+": Range", x.Range(api.Box{Min: p, Max: q}), w.within(api.Box{Min: p, Max: q})...)
	}
}

// any32 is any number of 32 bits, of any size, above 0 or below.
func any32(r *rand.Rand) int32 { return int32(r.Uint32()) >> r.Intn(32) }

// anywhere is any point, of the lattice or not.
func anywhere(r *rand.Rand) api.Point { return at(any32(r), any32(r)) }

// nearby is a point near to the middle.
func nearby(r *rand.Rand) api.Point { return at(int32(r.Intn(21)-10), int32(r.Intn(21)-10)) }

// somePoint is one of both kinds.
func somePoint(r *rand.Rand) api.Point {
	if r.Intn(3) == 0 {
		return anywhere(r)
	}
	return nearby(r)
}

package tree

import (
	"iter"
	"slices"
	"testing"

	"paddock/api"
)

// mask is which of up to 64 points a box covers, a bit each: two boxes whose corners are among the points of a few rows and columns meet just if they cover one of these together.
func mask(b api.Box, points []api.Point) uint64 {
	var m uint64
	for i, p := range points {
		if b.Min.X <= p.X && p.X <= b.Max.X && b.Min.Y <= p.Y && p.Y <= b.Max.Y {
			m |= 1 << i
		}
	}
	return m
}

// P13.4: all boxes that are right with corners among some points, asked at each point, from each to each, and in all boxes, right or not, by the points that they cover.
func TestAllBoxes(t *testing.T) {
	for what, coordinates := range map[string][]int32{"small": {-1, 0, 1, 2}, "at the ends": ends()} {
		points := pointsOf(coordinates...)
		x := New()
		var masks []uint64
		for _, b := range boxesOf(points) {
			m := mask(b, points)
			e := x.Put(uint32(len(masks)), b)
			if m > 0 {
				masks = append(masks, m)
			}
			if (e == api.OK) != (m > 0) || e != api.OK && e != api.ErrBox {
				t.Errorf("%s: Put(.., %v): %d", what, b, e)
			}
		}
		want := func(m uint64) []uint32 {
			var list []uint32
			for id, o := range masks {
				if o&m > 0 {
					list = append(list, uint32(id))
				}
			}
			return list
		}
		for i, p := range points {
			wantTold(t, what+": At", x.At(p), want(1<<i)...)
		}
		for _, b := range boxesOf(points) {
			wantTold(t, what+": Range", x.Range(b), want(mask(b, points))...)
			wantTold(t, what+": Crossing", x.Crossing(b.Min, b.Max), want(mask(between(b.Min, b.Max), points))...)
		}
	}
}

// P13.4: points on a box's edges and corners, and one beside them.
func TestAtEdges(t *testing.T) {
	x := made(t, map[uint32]api.Box{4: box(-3, 2, 5, 9)})
	for _, p := range []api.Point{at(-3, 2), at(5, 2), at(-3, 9), at(5, 9), at(0, 2), at(0, 9), at(-3, 5), at(5, 5), at(0, 5)} {
		wantTold(t, "At what it covers", x.At(p), 4)
	}
	for _, p := range []api.Point{at(-4, 2), at(-3, 1), at(6, 2), at(5, 1), at(-4, 9), at(-3, 10), at(6, 9), at(5, 10), at(-4, 5), at(6, 5), at(0, 1), at(0, 10)} {
		wantTold(t, "At what it does not cover", x.At(p))
	}
}

// P13.4: the ends of the lattice and of the numbers, and one beside them.
func TestAtEnds(t *testing.T) {
	x := made(t, map[uint32]api.Box{1: lattice(), 2: plane(), 3: dot(edge, -edge), 4: dot(greatest, least), 5: box(edge+1, least, greatest, greatest)})
	for _, c := range []struct {
		p    api.Point
		want []uint32
	}{
		{at(edge, -edge), []uint32{1, 2, 3}},
		{at(-edge, edge), []uint32{1, 2}},
		{at(edge-1, -edge), []uint32{1, 2}},
		{at(edge+1, -edge), []uint32{2, 5}},
		{at(edge, -edge-1), []uint32{2}},
		{at(-edge-1, 0), []uint32{2}},
		{at(0, edge+1), []uint32{2}},
		{at(greatest, least), []uint32{2, 4, 5}},
		{at(greatest-1, least), []uint32{2, 5}},
		{at(greatest, least+1), []uint32{2, 5}},
		{at(least, greatest), []uint32{2}},
	} {
		wantTold(t, "At", x.At(c.p), c.want...)
	}
}

// P13.4: ways whose least box has an edge or a corner alone in common with a box, and ways that go past a box that their least box meets; both ways round, and of one point.
func TestCrossing(t *testing.T) {
	x := made(t, map[uint32]api.Box{4: box(10, 10, 20, 20)})
	for _, c := range []struct {
		what string
		p, q api.Point
		want []uint32
	}{
		{"the left edge", at(0, 15), at(10, 17), []uint32{4}},
		{"one left of it", at(0, 15), at(9, 17), nil},
		{"the right edge", at(20, 30), at(25, 5), []uint32{4}},
		{"one right of it", at(21, 30), at(25, 5), nil},
		{"the lower edge", at(0, 0), at(30, 10), []uint32{4}},
		{"one below it", at(0, 0), at(30, 9), nil},
		{"the upper edge", at(12, 20), at(13, 25), []uint32{4}},
		{"one above it", at(12, 21), at(13, 25), nil},
		{"the least corner", at(0, 0), at(10, 10), []uint32{4}},
		{"left of the least corner", at(0, 0), at(9, 10), nil},
		{"below the least corner", at(0, 0), at(10, 9), nil},
		{"the greatest corner", at(20, 20), at(30, 30), []uint32{4}},
		{"the upper left corner, aslant to it", at(5, 20), at(10, 25), []uint32{4}},
		{"the lower right corner, aslant to it", at(20, 5), at(25, 10), []uint32{4}},
		{"past it, its box around", at(0, 9), at(9, 30), nil},
		{"past it, its box meets", at(5, 20), at(20, 100), []uint32{4}},
		{"around all of it", at(30, 0), at(0, 30), []uint32{4}},
		{"within it", at(14, 16), at(16, 14), []uint32{4}},
		{"one point within", at(15, 15), at(15, 15), []uint32{4}},
		{"one point on the edge", at(10, 15), at(10, 15), []uint32{4}},
		{"one point at a corner", at(20, 10), at(20, 10), []uint32{4}},
		{"one point beside it", at(21, 10), at(21, 10), nil},
		{"level, through it", at(0, 15), at(30, 15), []uint32{4}},
		{"upright, through it", at(15, 30), at(15, 0), []uint32{4}},
		{"from end to end", at(least, greatest), at(greatest, least), []uint32{4}},
		{"along the edge of the numbers", at(least, least), at(least, greatest), nil},
	} {
		wantTold(t, c.what, x.Crossing(c.p, c.q), c.want...)
		wantTold(t, c.what+", back", x.Crossing(c.q, c.p), c.want...)
	}
}

// P13.4: ranges that are not right tell nothing, also where they lie within a box.
func TestRangeNotRight(t *testing.T) {
	x := made(t, map[uint32]api.Box{1: plane(), 2: lattice(), 3: box(-100, -100, 100, 100), 4: dot(0, 0)})
	for _, b := range wrongBoxes() {
		wantTold(t, "a range that is not right", x.Range(b))
	}
	wantTold(t, "the plane", x.Range(plane()), 1, 2, 3, 4)
	wantTold(t, "off the lattice", x.Range(box(edge+1, edge+1, greatest, greatest)), 1)
	wantTold(t, "the lattice's corner", x.Range(box(edge, edge, greatest, greatest)), 1, 2)
	wantTold(t, "one point", x.Range(dot(0, 0)), 1, 2, 3, 4)
}

// walks are the four iterators of a tree that tell all that is about the middle.
func walks(x *Tree) map[string]iter.Seq[uint32] {
	return map[string]iter.Seq[uint32]{
		"At":       x.At(at(0, 0)),
		"Crossing": x.Crossing(at(-9, 9), at(9, -9)),
		"Range":    x.Range(lattice()),
		"All": func(yield func(uint32) bool) {
			for id := range x.All() {
				if !yield(id) {
					return
				}
			}
		},
	}
}

// tens is a tree of boxes about the middle, under some tens, and its numbers.
func tens(t *testing.T, n int) (*Tree, []uint32) {
	x := New()
	var ids []uint32
	for i := range n {
		id := uint32(10 * (i + 1))
		put(t, x, id, box(-int32(i), -1, 1, int32(i)))
		ids = append(ids, id)
	}
	return x, ids
}

// P13.5: left early behind each number that is told, nothing more is told; gone over again, all is told again.
func TestLeftEarly(t *testing.T) {
	x, ids := tens(t, 20)
	for what, told := range walks(x) {
		for k := 1; k <= len(ids); k++ {
			var got []uint32
			told(func(id uint32) bool {
				got = append(got, id)
				return len(got) < k
			})
			if !slices.Equal(got, ids[:k]) {
				t.Errorf("%s, left behind %d: %v", what, k, got)
			}
		}
		wantTold(t, what+", again", told, ids...)
		wantTold(t, what+", once more", told, ids...)
	}
}

// P13.5: All is left early with its boxes, and gone over again.
func TestAllLeftEarly(t *testing.T) {
	x := made(t, three())
	told := x.All()
	want := []pair{{1, box(0, 0, 2, 2)}, {2, box(2, 2, 5, 3)}, {7, dot(9, 9)}}
	for k := 1; k <= 3; k++ {
		var got []pair
		told(func(id uint32, b api.Box) bool {
			got = append(got, pair{id, b})
			return len(got) < k
		})
		if !slices.Equal(got, want[:k]) {
			t.Errorf("left behind %d: %v", k, got)
		}
	}
	if got := pairs(told); !slices.Equal(got, want) {
		t.Errorf("again: %v", got)
	}
}

// P13.5: two that go over one iterator, and over others, by turns.
func TestByTurns(t *testing.T) {
	x, ids := tens(t, 9)
	for what, told := range walks(x) {
		var got []uint32
		for i := range told {
			for j := range told {
				if i == j {
					got = append(got, i)
				}
			}
		}
		if !slices.Equal(got, ids) {
			t.Errorf("%s within itself: %v", what, got)
		}
		one, stopOne := iter.Pull(told)
		other, stopOther := iter.Pull(told)
		one()
		for _, id := range ids[1:] {
			a, _ := other()
			b, _ := one()
			if a != id-10 || b != id {
				t.Errorf("%s by turns: %d, %d, want %d, %d", what, a, b, id-10, id)
			}
		}
		stopOne()
		stopOther()
	}
}

// P13.5: what is told is what there is when going over begins, not when the iterator was asked for.
func TestChangedBefore(t *testing.T) {
	x := New()
	before := walks(x)
	for what, told := range before {
		wantTold(t, what+" of nothing", told)
	}
	put(t, x, 5, dot(0, 0))
	put(t, x, 3, lattice())
	for what, told := range before {
		wantTold(t, what+" of two", told, 3, 5)
	}
	del(t, x, 5)
	put(t, x, 4, dot(0, 0))
	put(t, x, 9, box(-1, -1, 0, 0))
	for what, told := range before {
		wantTold(t, what+" of three", told, 3, 4, 9)
	}
	for _, id := range []uint32{3, 4, 9} {
		del(t, x, id)
	}
	for what, told := range before {
		wantTold(t, what+" of none again", told)
	}
	all := x.All()
	put(t, x, 4, dot(1, 1))
	del(t, x, 4)
	put(t, x, 4, dot(2, 2))
	if got := pairs(all); !slices.Equal(got, []pair{{4, dot(2, 2)}}) {
		t.Errorf("All: %v", got)
	}
}

// P13.5: what is done to the tree meanwhile changes nothing of a going over: at each number that is told all others are taken out, or others put in, or boxes changed.
func TestChangedMeanwhile(t *testing.T) {
	changes := map[string]func(x *Tree, id uint32){
		"all taken out": func(x *Tree, _ uint32) {
			for id := range x.All() {
				x.Del(id)
			}
		},
		"this one taken out": func(x *Tree, id uint32) { x.Del(id) },
		"those behind taken out": func(x *Tree, id uint32) {
			for k := id + 10; k <= 200; k += 10 {
				x.Del(k)
			}
		},
		"others put in": func(x *Tree, id uint32) {
			for k := range uint32(9) {
				x.Put(id+1+k, dot(0, 0))
				x.Put(id-1-k, dot(0, 0))
			}
		},
		"boxes changed": func(x *Tree, _ uint32) {
			for k := uint32(10); k <= 200; k += 10 {
				x.Del(k)
				x.Put(k, dot(edge+1, edge+1))
			}
		},
	}
	for how, change := range changes {
		for n := 1; n <= 20; n++ {
			for what := range walks(nil) {
				x, ids := tens(t, n)
				told := walks(x)[what]
				var got []uint32
				for id := range told {
					got = append(got, id)
					change(x, id)
				}
				if !slices.Equal(got, ids) {
					t.Errorf("%s, %s: %v, want %v", what, how, got, ids)
				}
				wantDepth(t, how, x)
				wantParts(t, how, x.root)
				wantTold(t, what+", "+how+", again", told, due(x, what)...)
			}
		}
	}
}

// due is what one of walks should tell, by the boxes that All tells.
func due(x *Tree, what string) []uint32 {
	w := words{}
	for id, b := range x.All() {
		w[id] = b
	}
	switch what {
	case "At":
		return w.meeting(dot(0, 0))
	case "Crossing":
		return w.meeting(box(-9, -9, 9, 9))
	case "Range":
		return w.meeting(lattice())
	}
	return w.meeting(plane())
}

// P13.5: All tells the boxes that there were when it began, also of numbers that have others by now.
func TestAllMeanwhile(t *testing.T) {
	x := made(t, three())
	var got []pair
	for id, b := range x.All() {
		got = append(got, pair{id, b})
		for k := range uint32(9) {
			x.Del(k)
			x.Put(k, dot(50, 50))
		}
	}
	if want := []pair{{1, box(0, 0, 2, 2)}, {2, box(2, 2, 5, 3)}, {7, dot(9, 9)}}; !slices.Equal(got, want) {
		t.Errorf("All: %v", got)
	}
	if x.Len() != 9 {
		t.Errorf("Len: %d", x.Len())
	}
}

// P13.4: what is far off is passed over whole: of many boxes in a row by number, few are asked where one is wanted, and of those around which there is nothing just the whole.
func TestPassesOver(t *testing.T) {
	const many = 4096
	x := New()
	for i := range int32(many) {
		put(t, x, uint32(i), dot(i, 0))
	}
	asked := 0
	count := func(b api.Box) iter.Seq[*node] {
		asked = 0
		return x.walk(func(other api.Box) bool {
			asked++
			return other.Min.X <= b.Max.X && b.Min.X <= other.Max.X && other.Min.Y <= b.Max.Y && b.Min.Y <= other.Max.Y
		})
	}
	for range count(dot(5, 1)) {
		t.Error("something is told where nothing is")
	}
	if asked != 1 {
		t.Errorf("%d boxes asked where nothing is", asked)
	}
	for i := range int32(many) {
		told := 0
		for n := range count(dot(i, 0)) {
			if told++; n.id != uint32(i) {
				t.Errorf("%d is told at %d", n.id, i)
			}
		}
		if told != 1 || asked > 4*x.Depth() {
			t.Errorf("at %d: %d told, %d asked", i, told, asked)
		}
	}
}

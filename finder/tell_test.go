package finder

import (
	"iter"
	"math/rand"
	"slices"
	"testing"

	"paddock/api"
)

// P14.3: points on a box's edges and corners, within it, and one beside it.
func TestAtEdges(t *testing.T) {
	for _, k := range kinds() {
		f := holding(t, k, words{4: box(-3, 2, 5, 9)})
		for _, p := range []api.Point{at(-3, 2), at(5, 2), at(-3, 9), at(5, 9), at(0, 2), at(0, 9), at(-3, 5), at(5, 5), at(0, 5)} {
			wantTold(t, k, "At what it covers", f.At(p), 4)
		}
		for _, p := range []api.Point{at(-4, 2), at(-3, 1), at(6, 2), at(5, 1), at(-4, 9), at(-3, 10), at(6, 9), at(5, 10), at(-4, 5), at(6, 5), at(0, 1), at(0, 10), at(2, -3), at(9, 5)} {
			wantTold(t, k, "At what it does not cover", f.At(p))
		}
	}
}

// P14.3: the ends of the lattice, one beside them, and off it.
func TestAtEnds(t *testing.T) {
	w := words{0: whole(), 3: dot(edge, -edge), 4: box(-edge, edge, edge, edge), topmost: box(-edge, -edge, -edge, edge)}
	for _, k := range kinds() {
		f := holding(t, k, w)
		wantTold(t, k, "lower right", f.At(at(edge, -edge)), 0, 3)
		wantTold(t, k, "one left of that", f.At(at(edge-1, -edge)), 0)
		wantTold(t, k, "one above it", f.At(at(edge, 1-edge)), 0)
		wantTold(t, k, "upper right", f.At(at(edge, edge)), 0, 4)
		wantTold(t, k, "upper left", f.At(at(-edge, edge)), 0, 4, topmost)
		wantTold(t, k, "lower left", f.At(at(-edge, -edge)), 0, topmost)
		wantTold(t, k, "the middle", f.At(at(0, 0)), 0)
		for _, p := range outside() {
			wantTold(t, k, "off the lattice", f.At(p))
			wantTold(t, k, "off the lattice, a segment of one point", f.Crossing(p, p))
		}
	}
}

// way is a segment, and whether it meets the box from (10, 10) to (20, 20).
type way struct {
	what  string
	p, q  api.Point
	meets bool
}

// ways are segments of all kinds.
func ways() []way {
	return []way{
		{"level, through it", at(0, 15), at(30, 15), true},
		{"level, along the lower edge", at(0, 10), at(30, 10), true},
		{"level, below it", at(0, 9), at(30, 9), false},
		{"level, along the upper edge", at(0, 20), at(30, 20), true},
		{"level, above it", at(0, 21), at(30, 21), false},
		{"level, up to its edge", at(0, 12), at(10, 12), true},
		{"level, one short of it", at(0, 12), at(9, 12), false},
		{"level, from its other edge on", at(20, 12), at(90, 12), true},
		{"level, one behind it", at(21, 12), at(90, 12), false},
		{"level, to a corner", at(0, 20), at(10, 20), true},
		{"upright, through it", at(15, 0), at(15, 30), true},
		{"upright, along the left edge", at(10, 0), at(10, 30), true},
		{"upright, left of it", at(9, 0), at(9, 30), false},
		{"upright, along the right edge", at(20, 0), at(20, 30), true},
		{"upright, right of it", at(21, 0), at(21, 30), false},
		{"upright, up to its edge", at(12, 0), at(12, 10), true},
		{"upright, one short of it", at(12, 0), at(12, 9), false},
		{"upright, from its upper edge on", at(12, 20), at(12, 90), true},
		{"upright, one above it", at(12, 21), at(12, 90), false},
		{"rising, from corner to corner", at(0, 0), at(30, 30), true},
		{"rising, through it", at(0, 5), at(30, 25), true},
		{"rising, past the upper left corner", at(0, 11), at(19, 30), false},
		{"rising, by the upper left corner alone", at(0, 10), at(20, 30), true},
		{"rising, past the lower right corner", at(11, 0), at(30, 19), false},
		{"rising, by the lower right corner alone", at(10, 0), at(30, 20), true},
		{"rising, a little above the upper left corner", at(9, 19), at(12, 23), false},
		{"rising, a little below the lower right corner", at(19, 8), at(22, 12), false},
		{"falling, from corner to corner", at(0, 30), at(30, 0), true},
		{"falling, through it", at(0, 25), at(30, 5), true},
		{"falling, past the least corner", at(0, 19), at(19, 0), false},
		{"falling, by the least corner alone", at(0, 20), at(20, 0), true},
		{"falling, past the greatest corner", at(11, 30), at(30, 11), false},
		{"falling, by the greatest corner alone", at(10, 30), at(30, 10), true},
		{"falling, a little below the least corner", at(8, 11), at(12, 8), false},
		{"falling, a little above the greatest corner", at(18, 23), at(22, 18), false},
		{"to the least corner", at(0, 3), at(10, 10), true},
		{"to one left of it", at(0, 3), at(9, 10), false},
		{"to one below it", at(0, 3), at(10, 9), false},
		{"to the greatest corner", at(27, 29), at(20, 20), true},
		{"to an edge, aslant", at(0, 0), at(10, 17), true},
		{"towards an edge, and short of it", at(0, 0), at(9, 14), false},
		{"away from an edge", at(20, 14), at(28, 3), true},
		{"within it", at(12, 17), at(18, 13), true},
		{"from within", at(15, 15), at(90, 400), true},
		{"on its line, behind it", at(40, 40), at(30, 30), false},
		{"on its line, ahead of it", at(1, 1), at(9, 9), false},
		{"one point within", at(13, 18), at(13, 18), true},
		{"one point on the edge", at(10, 18), at(10, 18), true},
		{"one point at a corner", at(20, 10), at(20, 10), true},
		{"one point beside the edge", at(9, 18), at(9, 18), false},
		{"one point beside the corner", at(21, 9), at(21, 9), false},
		{"one point afar", at(-edge, edge), at(-edge, edge), false},
		{"from end to end, by the middle", at(-edge, -edge), at(edge, edge), true},
		{"from end to end, past it", at(-edge, edge), at(edge, -edge), false},
		{"along the lattice's edge", at(-edge, -edge), at(-edge, edge), false},
		{"level from end to end", at(-edge, 20), at(edge, 20), true},
		{"level from end to end, past it", at(-edge, 21), at(edge, 21), false},
	}
}

// P14.3: segments of all kinds, both ways round, at a box that lies about and at one that is turned by a quarter with them.
func TestCrossing(t *testing.T) {
	for _, k := range kinds() {
		upright := holding(t, k, words{4: box(10, 10, 20, 20)})
		turned := holding(t, k, words{4: box(-20, 10, -10, 20)})
		for _, x := range ways() {
			var want []uint32
			if x.meets {
				want = append(want, 4)
			}
			wantBoth(t, k, x.what, upright, x.p, x.q, want...)
			wantBoth(t, k, x.what+", turned", turned, at(-x.p.Y, x.p.X), at(-x.q.Y, x.q.X), want...)
		}
	}
}

// P14.3: the least box of a segment meets all of these, the segment itself some alone; and there are cells that both have a part of.
func TestCrossingSieved(t *testing.T) {
	w := words{1: dot(0, 0), 2: dot(1, 2), 3: dot(2, 2), 4: box(0, 3, 4, 4), 5: box(3, 0, 3, 1), 6: box(4, 0, 5, 1), 9: whole()}
	for _, k := range kinds() {
		f := holding(t, k, w)
		wantBoth(t, k, "rising", f, at(0, 0), at(4, 4), 1, 3, 4, 9)
		wantBoth(t, k, "falling", f, at(0, 4), at(4, 0), 3, 4, 5, 6, 9)
		wantBoth(t, k, "steep", f, at(0, 0), at(2, 4), 1, 2, 4, 9)
		wantBoth(t, k, "flat", f, at(0, 0), at(4, 1), 1, 5, 6, 9)
		wantTold(t, k, "At", f.At(at(2, 1)), 9)
	}
}

// P14.3: ends off the lattice, either one or both, near and far: none, also where the rest of the way meets all boxes.
func TestCrossingOutside(t *testing.T) {
	w := words{1: box(0, 0, 5, 5), 2: whole(), 3: dot(edge, edge), 4: dot(-edge, -edge)}
	for _, k := range kinds() {
		f := holding(t, k, w)
		for _, p := range outside() {
			for _, q := range append(outside(), at(0, 0), at(edge, edge), at(-edge, 0)) {
				wantBoth(t, k, "an end off the lattice", f, p, q)
			}
		}
		wantBoth(t, k, "both ends of the lattice", f, at(-edge, -edge), at(edge, edge), 1, 2, 3, 4)
	}
}

// P14.3: the greatest and the least numbers that can come up: ways from end to end that pass a point by as little as there is.
func TestCrossingByLittle(t *testing.T) {
	for _, x := range []struct {
		what string
		p, q api.Point
		b    api.Box
		met  bool
	}{
		{"the middle", at(-edge, -edge), at(edge, edge), dot(0, 0), true},
		{"one beside the middle", at(-edge, -edge), at(edge, edge), dot(1, 0), false},
		{"its end", at(-edge, edge), at(edge, -edge), dot(edge, -edge), true},
		{"one beside its end", at(-edge, edge), at(edge, -edge), dot(edge-1, -edge), false},
		{"one more steep, its beginning", at(-edge, -edge), at(edge-1, edge), dot(1-edge, 1-edge), false},
		{"one more steep, its middle", at(-edge, -edge), at(edge-1, edge), dot(0, 0), false},
		{"one more steep, between two", at(-edge, -edge), at(edge-1, edge), box(-1, 0, 0, 0), true},
		{"one more steep, one left of these", at(-edge, -edge), at(edge-1, edge), box(-3, 0, -1, 0), false},
		{"one more flat, its middle", at(-edge, -edge), at(edge, edge-1), dot(0, 0), false},
		{"one more flat, one below", at(-edge, -edge), at(edge, edge-1), dot(0, -1), false},
		{"one more flat, both", at(-edge, -edge), at(edge, edge-1), box(0, -1, 0, 0), true},
		{"the furthest corner to the left", at(-edge, -edge), at(edge, edge), dot(-edge, edge), false},
		{"the furthest corner to the right", at(-edge, -edge), at(edge, edge), dot(edge, -edge), false},
		{"the whole lattice", at(-edge, edge), at(edge, -edge), whole(), true},
		{"the upper half, from below", at(-edge, -edge), at(edge, 0), box(-edge, 0, edge, edge), true},
		{"the upper half but one row, from below", at(-edge, -edge), at(edge, 0), box(-edge, 1, edge, edge), false},
		{"all but a corner's triangle", at(-edge, 1-edge), at(1-edge, -edge), box(1-edge, 1-edge, edge, edge), false},
		{"all but a corner", at(-edge, 1-edge), at(1-edge, -edge), box(-edge, -edge, edge, edge-1), true},
		{"almost level, below it", at(-edge, 0), at(edge, 1), dot(edge-1, 1), false},
		{"almost level, above it", at(-edge, 0), at(edge, 1), dot(1-edge, 0), false},
		{"almost level, between two", at(-edge, 0), at(edge, 1), box(0, 0, 0, 1), true},
		{"almost upright, beside it", at(0, -edge), at(1, edge), dot(0, 1-edge), false},
		{"almost upright, between two", at(0, -edge), at(1, edge), box(0, 5, 1, 5), true},
	} {
		if met := hasPart(x.b, x.p, x.q); met != x.met {
			t.Errorf("%s: by the words: %v", x.what, met)
		}
		for _, k := range kinds() {
			var want []uint32
			if x.met {
				want = append(want, topmost)
			}
			wantBoth(t, k, x.what, holding(t, k, words{topmost: x.b}), x.p, x.q, want...)
		}
	}
}

// allBoxes are the right boxes with corners among some points, numbered.
func allBoxes(points []api.Point) words {
	w := words{}
	for _, p := range points {
		for _, q := range points {
			w.put(uint32(len(w)), api.Box{Min: p, Max: q})
		}
	}
	return w
}

// P14.3, P14.4, P14.5: all boxes and all ways with corners and ends among some points, near to one another and at the ends of the lattice.
func TestAllBoxes(t *testing.T) {
	for what, points := range map[string][]api.Point{
		"small":       pointsOf(-1, 0, 1, 2, 4),
		"at the ends": pointsOf(-edge, 1-edge, 0, edge),
	} {
		w := allBoxes(points)
		finders := map[kind]Finder{}
		for _, k := range kinds() {
			finders[k] = holding(t, k, w)
		}
		for _, p := range points {
			for _, q := range points {
				want := w.crossing(p, q)
				for k, f := range finders {
					wantTold(t, k, what+": Crossing", f.Crossing(p, q), want...)
				}
			}
			want := w.at(p)
			for k, f := range finders {
				wantTold(t, k, what+": At", f.At(p), want...)
				wantTold(t, k, what+": Crossing of one point", f.Crossing(p, p), want...)
			}
		}
	}
}

// P14.5: what is told at either end is told of the way between them; what is told at a point is told of the segment of that point; off the lattice too, as far as that holds there.
func TestEndsAreOfTheWay(t *testing.T) {
	r := rand.New(rand.NewSource(5))
	for _, k := range kinds() {
		f := made(t, k)
		for id := range uint32(30) {
			f.Put(id, between(somePoint(r), somePoint(r)))
		}
		told := 0
		for range 300 {
			p, q := somePoint(r), somePoint(r)
			here, there, way := slices.Collect(f.At(p)), slices.Collect(f.At(q)), slices.Collect(f.Crossing(p, q))
			wantTold(t, k, "Crossing of one point", f.Crossing(p, p), here...)
			if !isOn(p) || !isOn(q) {
				wantTold(t, k, "off the lattice", f.Crossing(p, q))
				continue
			}
			for _, id := range append(here, there...) {
				told++
				if !slices.Contains(way, id) {
					t.Errorf("%v: Crossing(%v, %v) misses %d", k, p, q, id)
				}
			}
		}
		if told < 100 {
			t.Errorf("%v: %d told at the ends", k, told)
		}
	}
}

// walks are iterators of a finder that tell all that is about the middle.
func walks(f Finder) map[string]iter.Seq[uint32] {
	return map[string]iter.Seq[uint32]{
		"At":              f.At(at(0, 0)),
		"Crossing":        f.Crossing(at(-9, 9), at(9, -9)),
		"a long Crossing": f.Crossing(at(-edge, 0), at(edge, 0)),
	}
}

// tens is a finder with boxes about the middle, under some tens, and its numbers.
func tens(t *testing.T, k kind, n int) (Finder, []uint32) {
	t.Helper()
	f := made(t, k)
	var ids []uint32
	for i := range n {
		id := uint32(10 * (i + 1))
		put(t, f, id, box(-int32(i), -1, 1, int32(i)))
		ids = append(ids, id)
	}
	return f, ids
}

// P14.3: left early behind each number, nothing more is told; gone over again, and within itself, all is told again.
func TestLeftEarly(t *testing.T) {
	for _, k := range kinds() {
		f, ids := tens(t, k, 12)
		for what, told := range walks(f) {
			for n := 1; n <= len(ids); n++ {
				var got []uint32
				told(func(id uint32) bool {
					got = append(got, id)
					return len(got) < n
				})
				if !slices.Equal(got, ids[:n]) {
					t.Errorf("%v: %s, left behind %d: %v", k, what, n, got)
				}
				wantTold(t, k, what+", gone over again", told, ids...)
			}
			for range told {
				wantTold(t, k, what+", within itself", told, ids...)
			}
		}
		for range f.At(at(500, 500)) {
			t.Errorf("%v: told where nothing is", k)
		}
	}
}

// P14.3: what is told is what was there when it was asked for, each time that it is gone over, whatever was done to the finder since.
func TestToldAsItWas(t *testing.T) {
	for _, k := range kinds() {
		f, ids := tens(t, k, 8)
		fresh, used, none := walks(f), walks(f), f.At(at(500, 500))
		for what, told := range used {
			wantTold(t, k, "at first: "+what, told, ids...)
		}
		still := func(what string) {
			t.Helper()
			for name, told := range used {
				wantTold(t, k, what+": "+name, told, ids...)
			}
			wantTold(t, k, what+": where nothing was", none)
		}
		put(t, f, 5, dot(0, 0))
		put(t, f, 15, whole())
		put(t, f, topmost, box(-20, -20, 500, 500))
		still("more put in")
		del(t, f, 10)
		del(t, f, 50)
		still("some taken out")
		put(t, f, 10, dot(300, 300))
		put(t, f, 50, dot(-edge, edge))
		still("put in elsewhere")
		for _, id := range append([]uint32{5, 15, topmost}, ids...) {
			del(t, f, id)
		}
		still("all taken out")
		for id := range uint32(100) {
			put(t, f, id, box(-1, -1, 1, 1))
		}
		still("others put in")
		for name, told := range fresh {
			wantTold(t, k, "gone over late: "+name, told, ids...)
		}
	}
}

// P14.3: what is done to the finder while an iterator is gone over changes nothing of it, neither that time nor the next; asked anew, the finder tells what there is.
func TestChangedMeanwhile(t *testing.T) {
	for _, k := range kinds() {
		for what := range walks(made(t, k)) {
			f, ids := tens(t, k, 9)
			told := walks(f)[what]
			var got []uint32
			for id := range told {
				got = append(got, id)
				del(t, f, 100-id)
				put(t, f, id+5, whole())
				put(t, f, 1000-id, box(0, 0, 3, 3))
				if len(got) == 5 {
					wantTold(t, k, what+", within", told, ids...)
				}
			}
			if !slices.Equal(got, ids) {
				t.Errorf("%v: %s, changed meanwhile: %v", k, what, got)
			}
			wantTold(t, k, what+", gone over again", told, ids...)
			var now []uint32
			for i := range uint32(9) {
				now = append(now, 10*(i+1)+5)
			}
			for i := range uint32(9) {
				now = append(now, 910+10*i)
			}
			wantTold(t, k, what+", asked anew", walks(f)[what], now...)
		}
	}
}

// P14.3, P14.4: a box taken out while its own number is told, and the same number put in elsewhere.
func TestMovedMeanwhile(t *testing.T) {
	for _, k := range kinds() {
		f, ids := tens(t, k, 9)
		var got []uint32
		for id := range f.At(at(0, 0)) {
			got = append(got, id)
			for _, other := range ids {
				f.Del(other)
				put(t, f, other, dot(int32(other), int32(id)))
			}
		}
		if !slices.Equal(got, ids) {
			t.Errorf("%v: moved meanwhile: %v", k, got)
		}
		wantTold(t, k, "where they were", f.At(at(0, 0)))
		wantTold(t, k, "where they are", f.Crossing(at(10, 90), at(90, 90)), ids...)
	}
}

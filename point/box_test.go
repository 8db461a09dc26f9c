package point

import (
	"slices"
	"testing"

	"paddock/api"
)

// around is the least box of points by the words: the least and the greatest of each coordinate.
func around(v []api.Point) (api.Box, bool) {
	if len(v) == 0 {
		return api.Box{}, false
	}
	var xs, ys []int32
	for _, p := range v {
		xs, ys = append(xs, p.X), append(ys, p.Y)
	}
	return boxOf(slices.Min(xs), slices.Min(ys), slices.Max(xs), slices.Max(ys)), true
}

// P4.7
func TestBounds(t *testing.T) {
	for _, v := range lists() {
		want, is := around(v)
		if got, ok := Bounds(v...); got != want || ok != is {
			t.Errorf("Bounds(%v): %v, %v, want %v, %v", v, got, ok, want, is)
		}
	}
}

// P4.7
func TestBoundsByHand(t *testing.T) {
	for _, x := range []struct {
		v    []api.Point
		want api.Box
		ok   bool
	}{
		{nil, api.Box{}, false},
		{[]api.Point{}, api.Box{}, false},
		{[]api.Point{at(1, 5), at(3, 2)}, boxOf(1, 2, 3, 5), true},
		{[]api.Point{at(1, 5), at(3, 2), at(2, 9)}, boxOf(1, 2, 3, 9), true},
		{[]api.Point{at(4, 4)}, boxOf(4, 4, 4, 4), true},
		{[]api.Point{at(0, 0)}, boxOf(0, 0, 0, 0), true},
		{[]api.Point{at(-3, -4), at(-3, -4)}, boxOf(-3, -4, -3, -4), true},
		{[]api.Point{at(5, 6), at(7, 8)}, boxOf(5, 6, 7, 8), true},
		{[]api.Point{at(-7, -8), at(-5, -6)}, boxOf(-7, -8, -5, -6), true},
		{[]api.Point{at(least, greatest), at(greatest, least)}, boxOf(least, least, greatest, greatest), true},
	} {
		if got, ok := Bounds(x.v...); got != x.want || ok != x.ok {
			t.Errorf("Bounds(%v): %v, %v", x.v, got, ok)
		}
	}
	if got, ok := Bounds(); got != (api.Box{}) || ok {
		t.Errorf("Bounds(): %v, %v", got, ok)
	}
}

// P4.7, P0.1: what is handed in is not changed, spare room included.
func TestBoundsLeavesItsList(t *testing.T) {
	for n := range 4 {
		room := []api.Point{at(5, 1), at(-4, 2), at(3, -9), at(2, 2), at(1, 1)}
		before := slices.Clone(room)
		Bounds(room[:n]...)
		if !slices.Equal(room, before) {
			t.Errorf("%v became %v", before, room)
		}
	}
}

// boxes are all boxes of few coordinates, those that are not right too.
func boxes(coordinates ...int32) []api.Box {
	var list []api.Box
	corners := grid(coordinates...)
	for _, low := range corners {
		for _, high := range corners {
			list = append(list, api.Box{Min: low, Max: high})
		}
	}
	return list
}

// covers is Has by the words: the box is right, and the point is from Min to Max.
func covers(b api.Box, p api.Point) bool {
	right := !(b.Min.X > b.Max.X) && !(b.Min.Y > b.Max.Y)
	beside := p.X < b.Min.X || p.X > b.Max.X || p.Y < b.Min.Y || p.Y > b.Max.Y
	return right && !beside
}

// wantBoxes fails, unless the calls on boxes do what the points of a grid say, where the boxes have their corners.
func wantBoxes(t *testing.T, coordinates ...int32) {
	t.Helper()
	points := grid(coordinates...)
	all := boxes(coordinates...)
	for _, a := range all {
		for _, p := range points {
			if got := Has(a, p); got != covers(a, p) {
				t.Errorf("Has(%v, %v): %v", a, p, got)
			}
		}
		if got := Right(a); got != covers(a, a.Min) {
			t.Errorf("Right(%v): %v", a, got)
		}
		for _, b := range all {
			wantPair(t, a, b, points)
		}
	}
}

// wantPair fails, unless Meet and Join of two boxes are what they cover of these points.
func wantPair(t *testing.T, a, b api.Box, points []api.Point) {
	t.Helper()
	meet := false
	var either []api.Point
	for _, p := range points {
		inA, inB := covers(a, p), covers(b, p)
		meet = meet || inA && inB
		if inA || inB {
			either = append(either, p)
		}
	}
	if got := Meet(a, b); got != meet {
		t.Errorf("Meet(%v, %v): %v", a, b, got)
	}
	if want, _ := around(either); Join(a, b) != want {
		t.Errorf("Join(%v, %v): %v, want %v", a, b, Join(a, b), want)
	}
}

// P4.7
func TestBoxes(t *testing.T) {
	wantBoxes(t, -1, 0, 1, 2)
	wantBoxes(t, least, 0, greatest)
	wantBoxes(t, 3, 4, 5)
}

// P4.7
func TestBoxesByHand(t *testing.T) {
	wrongX, wrongY := boxOf(1, 0, 0, 0), boxOf(0, 1, 0, 0)
	square := boxOf(0, 0, 2, 2)
	for _, x := range []struct {
		name      string
		got, want bool
	}{
		{"a point's box is right", Right(boxOf(7, 7, 7, 7)), true},
		{"the widest box is right", Right(boxOf(least, least, greatest, greatest)), true},
		{"wrong in X", Right(wrongX), false},
		{"wrong in Y", Right(wrongY), false},
		{"the most wrong box", Right(boxOf(greatest, greatest, least, least)), false},
		{"its least corner", Has(square, at(0, 0)), true},
		{"its greatest corner", Has(square, at(2, 2)), true},
		{"its edge", Has(square, at(2, 1)), true},
		{"right of it", Has(square, at(3, 1)), false},
		{"left of it", Has(square, at(-1, 1)), false},
		{"above it", Has(square, at(1, 3)), false},
		{"below it", Has(square, at(1, -1)), false},
		{"a wrong box's corner", Has(wrongX, at(1, 0)), false},
		{"a wrong box's other corner", Has(wrongX, at(0, 0)), false},
		{"a wrong box's midst", Has(boxOf(4, 4, 0, 0), at(2, 2)), false},
		{"a corner in common", Meet(boxOf(0, 0, 1, 1), boxOf(1, 1, 2, 2)), true},
		{"an edge in common", Meet(square, boxOf(2, -5, 9, 9)), true},
		{"one in the other", Meet(boxOf(-9, -9, 9, 9), square), true},
		{"a cross", Meet(boxOf(-9, 1, 9, 1), boxOf(1, -9, 1, 9)), true},
		{"apart in X", Meet(boxOf(0, 0, 1, 1), boxOf(2, 0, 3, 1)), false},
		{"apart in Y", Meet(boxOf(0, 0, 1, 1), boxOf(0, 2, 1, 3)), false},
		{"a wrong one and a wide one", Meet(wrongX, boxOf(-9, -9, 9, 9)), false},
		{"a wide one and a wrong one", Meet(boxOf(-9, -9, 9, 9), wrongY), false},
		{"a wrong one and itself", Meet(wrongX, wrongX), false},
	} {
		if x.got != x.want {
			t.Errorf("%s: %v", x.name, x.got)
		}
	}
}

// P4.7
func TestJoinByHand(t *testing.T) {
	wrong := boxOf(1, 0, 0, 0)
	for _, x := range []struct{ a, b, want api.Box }{
		{boxOf(0, 0, 1, 1), boxOf(5, -1, 6, 0), boxOf(0, -1, 6, 1)},
		{boxOf(-9, -9, 9, 9), boxOf(1, 1, 2, 2), boxOf(-9, -9, 9, 9)},
		{wrong, boxOf(5, 5, 6, 6), boxOf(5, 5, 6, 6)},
		{boxOf(5, 5, 6, 6), wrong, boxOf(5, 5, 6, 6)},
		{wrong, boxOf(0, 9, 0, 8), api.Box{}},
		{boxOf(least, 0, least, 0), boxOf(greatest, 0, greatest, 0), boxOf(least, 0, greatest, 0)},
	} {
		if got := Join(x.a, x.b); got != x.want {
			t.Errorf("Join(%v, %v): %v, want %v", x.a, x.b, got, x.want)
		}
	}
}

package ring

import (
	"math/big"
	"math/rand"
	"slices"
	"testing"

	"paddock/api"
	"paddock/wide"
)

// pairs are what an iterator tells, each two points one behind the other.
func pairs(v []api.Point) []api.Point {
	var list []api.Point
	for a, b := range Edges(v) {
		list = append(list, a, b)
	}
	return list
}

// P6.3
func TestEdges(t *testing.T) {
	for _, x := range []struct{ v, want []api.Point }{
		{nil, nil},
		{[]api.Point{}, nil},
		{of(5, 6), of(5, 6, 5, 6)},
		{of(5, 6, 7, 8), of(5, 6, 7, 8, 7, 8, 5, 6)},
		{of(1, 1, 1, 1), of(1, 1, 1, 1, 1, 1, 1, 1)},
		{of(0, 0, 4, 0, 0, 4), of(0, 0, 4, 0, 4, 0, 0, 4, 0, 4, 0, 0)},
		{of(least, greatest, greatest, least), of(least, greatest, greatest, least, greatest, least, least, greatest)},
	} {
		if got := pairs(x.v); !slices.Equal(got, x.want) {
			t.Errorf("Edges of %v: %v, want %v", text(x.v), text(got), text(x.want))
		}
	}
	v := make([]api.Point, 100000)
	for i := range v {
		v[i] = at(int32(i), 1)
	}
	got := pairs(v)
	if len(got) != 2*len(v) {
		t.Fatalf("%d ends of %d edges", len(got), len(v))
	}
	for i := range v {
		if got[2*i] != v[i] || got[2*i+1] != v[(i+1)%len(v)] {
			t.Fatalf("edge %d: %v", i, got[2*i:2*i+2])
		}
	}
}

// P6.3
func TestEdgesAgainAndLeftEarly(t *testing.T) {
	v := of(0, 0, 4, 0, 4, 4, 0, 4)
	all := Edges(v)
	for most := range 6 {
		told := 0
		for a, b := range all {
			if a != v[told] || b != v[(told+1)%4] {
				t.Errorf("edge %d: %v, %v", told, a, b)
			}
			told++
			if told >= most {
				break
			}
		}
		if want := min(max(most, 1), 4); told != want {
			t.Errorf("left behind %d edges, want %d", told, want)
		}
	}
	// One within another.
	told := 0
	for range all {
		for a, b := range all {
			if a != v[told%4] || b != v[(told+1)%4] {
				t.Errorf("edge %d within another: %v, %v", told%4, a, b)
			}
			told++
		}
	}
	if told != 16 {
		t.Errorf("%d edges within others", told)
	}
}

// P6.3
func TestEdgesOfTheListAsItIs(t *testing.T) {
	v := of(0, 0, 4, 0, 4, 4, 9, 9)
	all := Edges(v[:3])
	v[0], v[3] = at(7, 7), at(8, 8)
	want := of(0, 0, 4, 0, 4, 0, 4, 4, 4, 4, 0, 0)
	for range 2 {
		var got []api.Point
		for a, b := range all {
			v[1], v[2] = at(1, 2), at(3, 4)
			got = append(got, a, b)
		}
		if !slices.Equal(got, want) {
			t.Errorf("%v, want %v", text(got), text(want))
		}
	}
	var first int
	for a, b := range Edges(v[:1]) {
		first++
		if a != v[0] || b != v[0] {
			t.Errorf("of one point: %v, %v", a, b)
		}
	}
	if first != 1 {
		t.Errorf("of one point: %d edges", first)
	}
}

// P6.3
func TestBounds(t *testing.T) {
	for _, v := range lists() {
		var want api.Box
		if len(v) > 0 {
			want = api.Box{Min: v[0], Max: v[0]}
		}
		for _, p := range v {
			want.Min.X, want.Min.Y = min(want.Min.X, p.X), min(want.Min.Y, p.Y)
			want.Max.X, want.Max.Y = max(want.Max.X, p.X), max(want.Max.Y, p.Y)
		}
		if got, ok := Bounds(v); got != want || ok != (len(v) > 0) {
			t.Errorf("Bounds of %v: %v, %v", text(v), got, ok)
		}
	}
}

// P6.3
func TestBoundsByHand(t *testing.T) {
	for _, x := range []struct {
		v    []api.Point
		want api.Box
		ok   bool
	}{
		{nil, api.Box{}, false},
		{[]api.Point{}, api.Box{}, false},
		{of(3, 4), api.Box{Min: at(3, 4), Max: at(3, 4)}, true},
		{of(1, 9, -3, 2), api.Box{Min: at(-3, 2), Max: at(1, 9)}, true},
		{of(4, 4, 4, 4), api.Box{Min: at(4, 4), Max: at(4, 4)}, true},
		{of(greatest, least, least, greatest), api.Box{Min: at(least, least), Max: at(greatest, greatest)}, true},
		{of(-1, -1, -5, -2, -3, -9), api.Box{Min: at(-5, -9), Max: at(-1, -1)}, true},
	} {
		if got, ok := Bounds(x.v); got != x.want || ok != x.ok {
			t.Errorf("Bounds of %v: %v, %v", text(x.v), got, ok)
		}
	}
}

// fan is twice the area by triangles, all of them with the first point.
func fan(v []api.Point) *big.Int {
	sum := new(big.Int)
	for i := 2; i < len(v); i++ {
		a, b := to(v[0], v[i-1]), to(v[0], v[i])
		sum.Add(sum, new(big.Int).Mul(big.NewInt(a.x), big.NewInt(b.y)))
		sum.Sub(sum, new(big.Int).Mul(big.NewInt(a.y), big.NewInt(b.x)))
	}
	return sum
}

// P6.2
func TestArea2(t *testing.T) {
	r := rand.New(rand.NewSource(2))
	list := append(lists(), nil, []api.Point{})
	for range 1000 {
		list = append(list, picked(r, r.Intn(200), grid(least, least+1, -5, 0, 1, greatest)))
	}
	for _, v := range list {
		if got := Area2(v); got.Text() != fan(v).String() {
			t.Errorf("Area2 of %v: %s, want %s", text(v), got.Text(), fan(v))
		}
	}
}

// P6.2
func TestArea2ByHand(t *testing.T) {
	all := of(least, least, greatest, least, greatest, greatest, least, greatest)
	side := int64(1<<32 - 1)
	for _, x := range []struct {
		what string
		v    []api.Point
		want wide.Int
	}{
		{"a square", of(0, 0, 4, 0, 4, 4, 0, 4), wide.Of(32)},
		{"turned about", of(0, 4, 4, 4, 4, 0, 0, 0), wide.Of(-32)},
		{"a triangle", of(1, 1, 4, 1, 1, 3), wide.Of(6)},
		{"none", nil, wide.Int{}},
		{"one", of(7, 9), wide.Int{}},
		{"two", of(7, 9, -3, 5), wide.Int{}},
		{"two, as far apart as can be", of(least, greatest, greatest, least), wide.Int{}},
		{"on one line", of(0, 0, 2, 2, 7, 7), wide.Int{}},
		{"crossing", of(0, 0, 4, 4, 4, 0, 0, 4), wide.Int{}},
		{"twice round", of(0, 0, 4, 0, 4, 4, 0, 4, 0, 0, 4, 0, 4, 4, 0, 4), wide.Of(64)},
		{"the whole lattice", of(-edge, -edge, edge, -edge, edge, edge, -edge, edge), wide.Mul(2*edge, 4*edge)},
		{"all there is", all, wide.Mul(side, 2*side)},
		{"all there is, turned about", turned(all), wide.Mul(side, -2*side)},
		{"all there is, a million times round", slices.Repeat(all, 1000000), wide.Mul(side, 2*side*1000000)},
		{"and the other way", slices.Repeat(turned(all), 1000000), wide.Mul(side, -2*side*1000000)},
	} {
		if got := Area2(x.v); got != x.want {
			t.Errorf("%s: %s, want %s", x.what, got.Text(), x.want.Text())
		}
	}
}

// isInside tells whether a point that is on no edge is within a ring: whether a way to the right crosses its edges an odd number of times.
func isInside(p api.Point, v []api.Point) bool {
	odd := false
	for i, a := range v {
		b := v[(i+1)%len(v)]
		if a.Y > b.Y {
			a, b = b, a
		}
		if a.Y <= p.Y && p.Y < b.Y && to(a, b).cross(to(a, p)) > 0 {
			odd = !odd
		}
	}
	return odd
}

// counted is twice a ring's area by the points of the lattice within it and on its edges.
func counted(v []api.Point) int64 {
	within, on := int64(0), int64(0)
	for _, p := range grid(-5, -4, -3, -2, -1, 0, 1, 2, 3, 4, 5) {
		edges := 0
		for i := range v {
			edges += common(p, p, v[i], v[(i+1)%len(v)])
		}
		if edges > 0 {
			on++
		} else if isInside(p, v) {
			within++
		}
	}
	return 2*within + on - 2
}

// againstClock tells whether a ring goes round against the clock, by which of the two edges at its lowest vertex (the leftmost of these) comes first.
func againstClock(v []api.Point) bool {
	low := 0
	for i, p := range v {
		if p.Y < v[low].Y || p.Y == v[low].Y && p.X < v[low].X {
			low = i
		}
	}
	return to(v[low], v[(low+1)%len(v)]).cross(to(v[low], v[(low+len(v)-1)%len(v)])) > 0
}

// P6.2
func TestArea2IsTwiceTheArea(t *testing.T) {
	small, against := 0, 0
	for _, v := range rings() {
		area := Area2(v)
		if (area.Sign() > 0) != againstClock(v) {
			t.Errorf("Area2 of %v has the sign %d", text(v), area.Sign())
		}
		if area.Sign() < 0 {
			area = area.Neg()
			against++
		}
		if box, _ := Bounds(v); max(-box.Min.X, -box.Min.Y, box.Max.X, box.Max.Y) > 5 {
			continue
		}
		small++
		if want := wide.Of(counted(v)); area != want {
			t.Errorf("Area2 of %v: %s, want %s", text(v), area.Text(), want.Text())
		}
	}
	if small < 100 || against < 100 {
		t.Errorf("%d small rings, %d with the clock", small, against)
	}
}

package inside

import (
	"math/rand"
	"slices"
	"testing"

	"paddock/api"
)

// P7.1, P7.2, P7.3, P7.4
func TestByTheWords(t *testing.T) {
	r := rand.New(rand.NewSource(3))
	var edge, covers [2]int
	windings, crossings := map[int]int{}, map[int]int{}
	for _, v := range lists() {
		for _, p := range near(r, v) {
			want := words(v, p)
			got := told{Edge(v, p), (Crossings(v, p) + Winding(v, p)) / 2, (Crossings(v, p) - Winding(v, p)) / 2}
			if got != want || Crossings(v, p) != want.rise+want.fall {
				t.Errorf("%s in %s: %v, want %v", text(p), text(v...), got, want)
			}
			if Covers(v, p) != want.covers() {
				t.Errorf("Covers of %s in %s is not %v", text(p), text(v...), want.covers())
			}
			edge[number(want.edge)]++
			covers[number(want.covers())]++
			windings[want.rise-want.fall]++
			crossings[want.rise+want.fall]++
		}
	}
	if min(edge[0], edge[1], covers[0], covers[1]) < 1000 {
		t.Errorf("not both answers are asked for: %v, %v", edge, covers)
	}
	for n := -2; n <= 2; n++ {
		if windings[n] < 100 || crossings[n+2] < 100 {
			t.Errorf("the winding %d: %d times, %d crossings: %d times", n, windings[n], n+2, crossings[n+2])
		}
	}
}

func number(b bool) int {
	if b {
		return 1
	}
	return 0
}

// P7.1, P7.2, P7.3, P7.4
func TestByHand(t *testing.T) {
	square := of(0, 0, 4, 0, 4, 4, 0, 4)
	twice := append(slices.Clone(square), square...)
	teeth := of(0, 0, 2, 4, 4, 0, 6, 4, 8, 0, 8, 8, 0, 8)
	all := of(least, least, greatest, least, greatest, greatest, least, greatest)
	lattice := of(-bound, -bound, bound, -bound, bound, bound, -bound, bound)
	eight := of(0, 0, 4, 4, 4, 0, 0, 4)
	for _, x := range []struct {
		what               string
		v                  []api.Point
		p                  api.Point
		edge               bool
		crossings, winding int
		covers             bool
	}{
		{"in the square", square, at(2, 2), false, 1, 1, true},
		{"in the square backwards", turned(square), at(2, 2), false, 1, -1, true},
		{"in the square, told twice", twice, at(2, 2), false, 2, 2, false},
		{"on its edge, told twice", twice, at(0, 2), true, 2, 2, true},
		{"in the square, there and back", append(slices.Clone(square), turned(square)...), at(2, 2), false, 2, 0, false},
		{"on the right side", square, at(4, 2), true, 0, 0, true},
		{"on the left side", square, at(0, 2), true, 1, 1, true},
		{"on the lower side", square, at(2, 0), true, 1, 1, true},
		{"on the upper side", square, at(2, 4), true, 0, 0, true},
		{"on the first vertex", square, at(0, 0), true, 1, 1, true},
		{"on the second vertex", square, at(4, 0), true, 0, 0, true},
		{"on the third vertex", square, at(4, 4), true, 0, 0, true},
		{"on the last vertex", square, at(0, 4), true, 0, 0, true},
		{"to the right", square, at(5, 2), false, 0, 0, false},
		{"to the left", square, at(-1, 2), false, 2, 0, false},
		{"to the left, as low as the lower side", square, at(-1, 0), false, 2, 0, false},
		{"to the left, as high as the upper side", square, at(-1, 4), false, 0, 0, false},
		{"to the right, as low as the lower side", square, at(5, 0), false, 0, 0, false},
		{"to the right, as high as the upper side", square, at(5, 4), false, 0, 0, false},
		{"above", square, at(2, 5), false, 0, 0, false},
		{"below", square, at(2, -1), false, 0, 0, false},

		{"between teeth", teeth, at(2, 3), false, 4, 0, false},
		{"on a tooth's tip", teeth, at(2, 4), true, 1, 1, true},
		{"left of two tips", teeth, at(-3, 4), false, 2, 0, false},
		{"left of a tip, inside", teeth, at(1, 4), false, 1, 1, true},
		{"between two tips", teeth, at(3, 4), false, 1, 1, true},
		{"between two feet", teeth, at(2, 0), false, 4, 0, false},
		{"left of three feet", teeth, at(-1, 0), false, 6, 0, false},
		{"on a foot", teeth, at(4, 0), true, 2, 0, true},

		{"no points", nil, at(0, 0), false, 0, 0, false},
		{"an empty list", []api.Point{}, at(7, 7), false, 0, 0, false},
		{"one point", of(7, 7), at(7, 7), true, 0, 0, true},
		{"another one", of(7, 7), at(6, 7), false, 0, 0, false},
		{"between two points", of(0, 0, 9, 9), at(7, 7), true, 0, 0, true},
		{"one of two points", of(0, 0, 9, 9), at(9, 9), true, 0, 0, true},
		{"beside two points", of(0, 0, 9, 9), at(7, 6), false, 0, 0, false},
		{"left of two points", of(0, 0, 9, 9), at(6, 7), false, 2, 0, false},
		{"behind two points", of(0, 0, 9, 9), at(10, 10), false, 0, 0, false},
		{"between two level points", of(0, 3, 9, 3), at(5, 3), true, 0, 0, true},
		{"left of two level points", of(0, 3, 9, 3), at(-5, 3), false, 0, 0, false},

		{"an eight's left", eight, at(1, 2), false, 3, 1, true},
		{"an eight's right", eight, at(3, 2), false, 1, -1, true},
		{"an eight's middle", eight, at(2, 2), true, 1, -1, true},
		{"an eight's above", eight, at(2, 3), false, 2, 0, false},

		{"in all there is", all, at(0, 0), false, 1, 1, true},
		{"in all there is, backwards", turned(all), at(greatest-1, least+1), false, 1, -1, true},
		{"at its first vertex", all, at(least, least), true, 1, 1, true},
		{"at its third vertex", all, at(greatest, greatest), true, 0, 0, true},
		{"at the lattice's edge", lattice, at(bound, 5), true, 0, 0, true},
		{"off the lattice", lattice, at(bound+1, 5), false, 0, 0, false},
		{"off the lattice, to the left", lattice, at(-bound-1, 5), false, 2, 0, false},
		{"on a line over all", of(least, least, greatest, greatest), at(-5, -5), true, 0, 0, true},
		{"next to a line over all", of(least, least, greatest, greatest), at(-5, -4), false, 2, 0, false},
		{"next to its other side", of(least, least, greatest, greatest), at(-4, -5), false, 0, 0, false},
		{"a step from a slant side", of(least, least, greatest, greatest, greatest, greatest-1), at(greatest-1, greatest-1), true, 1, -1, true},
	} {
		if Edge(x.v, x.p) != x.edge {
			t.Errorf("%s: Edge is not %v", x.what, x.edge)
		}
		if got := Crossings(x.v, x.p); got != x.crossings {
			t.Errorf("%s: %d crossings, want %d", x.what, got, x.crossings)
		}
		if got := Winding(x.v, x.p); got != x.winding {
			t.Errorf("%s: the winding %d, want %d", x.what, got, x.winding)
		}
		if Covers(x.v, x.p) != x.covers {
			t.Errorf("%s: Covers is not %v", x.what, x.covers)
		}
	}
}

// P7.2, P7.4
func TestManyTimesRound(t *testing.T) {
	const times = 250000
	v := slices.Repeat(of(least, least, greatest, least, greatest, greatest, least, greatest), times)
	if Winding(v, at(3, 3)) != times || Crossings(v, at(3, 3)) != times || Covers(v, at(3, 3)) || !Covers(v[:len(v)-4], at(3, 3)) {
		t.Error("round and round")
	}
	if w := turned(v); Winding(w, at(3, 3)) != -times || Crossings(w, at(3, 3)) != times {
		t.Error("round and round, backwards")
	}
	if !Edge(append(v, at(3, 3)), at(3, 3)) || Edge(v, at(3, 3)) {
		t.Error("the last of many")
	}
}

// P7.5
func TestWith(t *testing.T) {
	r := rand.New(rand.NewSource(4))
	list := lists()
	var seen [2]int
	edges, cut := 0, 0
	for range 2000 {
		v := list[r.Intn(len(list))]
		var holes [][]api.Point
		for range r.Intn(4) {
			h := list[r.Intn(len(list))]
			if r.Intn(2) == 0 {
				h = picked(r, 3, grid(-1, 0, 1, 2))
			}
			holes = append(holes, h)
		}
		for _, p := range append(near(r, v), grid(-1, 0, 1)...) {
			want := words(v, p).covers()
			for _, h := range holes {
				x := words(h, p)
				if want && x.edge {
					edges++
				}
				if want && !x.edge && x.covers() {
					want = false
					cut++
				}
			}
			seen[number(want)]++
			if With(v, holes, p) != want {
				t.Errorf("%s in %s with the holes %v: not %v", text(p), text(v...), holes, want)
			}
		}
	}
	if min(seen[0], seen[1], edges, cut) < 1000 {
		t.Errorf("not all answers are asked for: %v, %d at holes' edges, %d within holes", seen, edges, cut)
	}
}

// P7.5
func TestWithByHand(t *testing.T) {
	square := of(0, 0, 4, 0, 4, 4, 0, 4)
	hole := of(1, 1, 3, 1, 3, 3, 1, 3)
	over := of(2, 2, 4, 2, 4, 4, 2, 4)
	for _, x := range []struct {
		what  string
		holes [][]api.Point
		p     api.Point
		want  bool
	}{
		{"within the hole", [][]api.Point{hole}, at(2, 2), false},
		{"on the hole's left side", [][]api.Point{hole}, at(1, 2), true},
		{"on the hole's lower side", [][]api.Point{hole}, at(2, 1), true},
		{"on the hole's right side", [][]api.Point{hole}, at(3, 2), true},
		{"on the hole's upper side", [][]api.Point{hole}, at(2, 3), true},
		{"on the hole's vertex", [][]api.Point{hole}, at(3, 3), true},
		{"on the ring's edge", [][]api.Point{hole}, at(0, 2), true},
		{"outside", [][]api.Point{hole}, at(5, 2), false},
		{"within the hole backwards", [][]api.Point{turned(hole)}, at(2, 2), false},
		{"within the hole told twice", [][]api.Point{append(slices.Clone(hole), hole...)}, at(2, 2), true},
		{"on both holes' edges", [][]api.Point{hole, over}, at(3, 2), true},
		{"on the first one's edge, within the second", [][]api.Point{hole, over}, at(3, 3), false},
		{"on the second one's edge, within the first", [][]api.Point{hole, over}, at(2, 2), false},
		{"the same, the other way about", [][]api.Point{over, hole}, at(3, 3), false},
		{"in neither", [][]api.Point{hole, over}, at(1, 1), true},
		{"no holes", nil, at(2, 2), true},
		{"no holes, on the edge", [][]api.Point{}, at(4, 4), true},
		{"no holes, outside", nil, at(5, 5), false},
		{"holes of no points", [][]api.Point{nil, {}, nil}, at(2, 2), true},
		{"a hole of one point", [][]api.Point{of(2, 2)}, at(2, 2), true},
		{"a hole of two points", [][]api.Point{of(1, 1, 3, 3)}, at(2, 2), true},
		{"a hole as great as the ring", [][]api.Point{square}, at(2, 2), false},
		{"its edge", [][]api.Point{square}, at(4, 1), true},
		{"a hole over the ring's edge", [][]api.Point{of(-1, 1, 2, 1, 2, 3, -1, 3)}, at(0, 2), false},
		{"within a hole, outside", [][]api.Point{of(8, 8, 9, 8, 9, 9)}, at(9, 8), false},
		{"the last of many holes", append(make([][]api.Point, 100000), hole), at(2, 2), false},
		{"the first of many holes", append([][]api.Point{hole}, make([][]api.Point, 100000)...), at(2, 2), false},
		{"a hole over all", [][]api.Point{of(least, least, greatest, least, greatest, greatest, least, greatest)}, at(2, 2), false},
	} {
		if With(square, x.holes, x.p) != x.want {
			t.Errorf("%s: not %v", x.what, x.want)
		}
	}
	if With(nil, [][]api.Point{hole}, at(0, 0)) || With(nil, nil, at(0, 0)) || !With(of(5, 5), nil, at(5, 5)) || With(of(5, 5), [][]api.Point{of(4, 4, 9, 4, 9, 9)}, at(5, 4)) {
		t.Error("of none, and of one")
	}
}

// P0.1: what is handed in is not changed, spare room included.
func TestArgumentsStay(t *testing.T) {
	v := of(0, 0, 4, 0, 4, 4, 0, 4, 7, 7, 8, 8)
	holes := [][]api.Point{v[:3:5], of(1, 1, 3, 1, 2, 2, 9, 9)[:3], nil, v[4:]}
	ring, inner, all := slices.Clone(v), slices.Clone(holes[1][:4]), slices.Clone(holes)
	Edge(v[:4], at(2, 1))
	Crossings(v[:4], at(2, 1))
	Covers(v[:4], at(2, 1))
	Winding(v[:4], at(2, 1))
	With(v[:4], holes[:2], at(2, 1))
	Counts(v[:4])
	if !slices.Equal(v, ring) || !slices.Equal(holes[1][:4], inner) {
		t.Error("points are changed")
	}
	for i, h := range holes {
		if !slices.Equal(h, all[i]) {
			t.Errorf("hole %d is changed", i)
		}
	}
}

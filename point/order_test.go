package point

import (
	"math/rand"
	"slices"
	"testing"

	"paddock/api"
)

// P4.1
func TestIn(t *testing.T) {
	for _, x := range []struct {
		p    api.Point
		want bool
	}{
		{at(0, 0), true},
		{at(edge, 0), true}, {at(-edge, 0), true}, {at(0, edge), true}, {at(0, -edge), true},
		{at(edge, -edge), true}, {at(-edge, edge), true},
		{at(edge+1, 0), false}, {at(-edge-1, 0), false}, {at(0, edge+1), false}, {at(0, -edge-1), false},
		{at(edge+1, edge+1), false}, {at(edge, edge+1), false}, {at(-edge-1, edge), false},
		{at(greatest, 0), false}, {at(0, greatest), false}, {at(least, 0), false}, {at(0, least), false}, {at(least, least), false},
	} {
		if got := In(x.p); got != x.want {
			t.Errorf("In(%v): %v", x.p, got)
		}
	}
}

// P4.2
func TestCmp(t *testing.T) {
	// Rising, and no two alike.
	rising := []api.Point{
		at(least, least), at(least, -1), at(least, 0), at(least, greatest), at(-edge, edge), at(-1, 5), at(0, least), at(0, -1), at(0, 0), at(0, 1),
		at(1, -9), at(1, 9), at(2, 0), at(edge, -edge), at(edge, edge), at(greatest, least), at(greatest, 0), at(greatest, greatest),
	}
	for i, a := range rising {
		for j, b := range rising {
			want := 0
			if i < j {
				want = -1
			} else if i > j {
				want = 1
			}
			if got := Cmp(a, b); got != want {
				t.Errorf("Cmp(%v, %v): %d, want %d", a, b, got, want)
			}
			if got := Less(a, b); got != (want == -1) {
				t.Errorf("Less(%v, %v): %v", a, b, got)
			}
		}
	}
}

// lists are points to be sorted, the same in each run.
func lists() [][]api.Point {
	list := [][]api.Point{
		{at(7, -7)},
		{at(2, 1), at(1, 2), at(2, 1), at(1, -2)},
		{at(3, 3), at(3, 3), at(3, 3)},
		edges(),
	}
	r := rand.New(rand.NewSource(2))
	for n := range 60 {
		var near, far []api.Point
		for range n * n / 4 {
			near = append(near, at(r.Int31n(7)-3, r.Int31n(7)-3))
			far = append(far, anywhere(r))
		}
		list = append(list, near, far)
	}
	return list
}

// times is how often each point stands in a list.
func times(v []api.Point) map[api.Point]int {
	m := map[api.Point]int{}
	for _, p := range v {
		m[p]++
	}
	return m
}

// P4.2
func TestSorted(t *testing.T) {
	for _, v := range lists() {
		got := Sorted(v)
		if len(got) != len(v) {
			t.Fatalf("Sorted of %d points: %d", len(v), len(got))
		}
		for i := 1; i < len(got); i++ {
			a, b := got[i-1], got[i]
			if a.X > b.X || a.X == b.X && a.Y > b.Y {
				t.Errorf("Sorted: %v ahead of %v", a, b)
			}
		}
		want := times(v)
		for p, n := range times(got) {
			if n != want[p] {
				t.Errorf("Sorted: %v stands %d times, want %d", p, n, want[p])
			}
		}
	}
}

// P4.2
func TestSortedByHand(t *testing.T) {
	got := Sorted([]api.Point{at(2, 1), at(1, 2), at(2, 1), at(1, -2), at(least, greatest), at(greatest, least)})
	want := []api.Point{at(least, greatest), at(1, -2), at(1, 2), at(2, 1), at(2, 1), at(greatest, least)}
	if !slices.Equal(got, want) {
		t.Errorf("%v, want %v", got, want)
	}
	if len(Sorted(nil)) != 0 || len(Sorted([]api.Point{})) != 0 {
		t.Error("no points became some")
	}
}

// P4.2, P0.1: what is handed in stays as it was, spare room included, and shares no memory with the answer.
func TestSortedLeavesItsList(t *testing.T) {
	for n := range 6 {
		room := []api.Point{at(5, 0), at(4, 0), at(3, 0), at(2, 0), at(1, 0), at(0, 0), at(-1, 0)}
		before := slices.Clone(room)
		first, second := Sorted(room[:n]), Sorted(room[:n])
		want := slices.Clone(second)
		for i := range first[:cap(first)] {
			first[:cap(first)][i] = at(99, 99)
		}
		if !slices.Equal(room, before) {
			t.Errorf("%v became %v", before, room)
		}
		if !slices.Equal(second, want) {
			t.Errorf("two answers share memory: %v became %v", want, second)
		}
		room[0] = at(-50, 0)
		if !slices.Equal(second, want) {
			t.Errorf("an answer shares its list's memory: %v became %v", want, second)
		}
	}
}

package ring

import (
	"slices"
	"testing"

	"paddock/api"
)

// form is the one form of a ring by the words: of all ways to write its corners the one that goes round against the clock and begins with the least.
func form(v []api.Point) []api.Point {
	var corners []api.Point
	n := len(v)
	for i, p := range v {
		before, behind := v[(i+n-1)%n], v[(i+1)%n]
		if common(p, p, before, behind) == 0 {
			corners = append(corners, p)
		}
	}
	for _, w := range [][]api.Point{corners, turned(corners)} {
		if !againstClock(w) {
			continue
		}
		for i := range w {
			if x := begun(w, i); isLeast(x[0], x) {
				return x
			}
		}
	}
	return nil
}

func isLeast(p api.Point, v []api.Point) bool {
	for _, q := range v {
		if q.X < p.X || q.X == p.X && q.Y < p.Y {
			return false
		}
	}
	return true
}

// P6.4
func TestNormal(t *testing.T) {
	straight, no := 0, 0
	for _, v := range lists() {
		reason := wrong(v).reason
		var want []api.Point
		if reason == api.OK {
			want = form(v)
			straight += len(v) - len(want)
		} else {
			no++
		}
		got, e := Normal(v)
		if e != reason || !slices.Equal(got, want) || reason != api.OK && got != nil {
			t.Errorf("Normal of %v: %v, %d, want %v, %d", text(v), text(got), e, text(want), reason)
		}
	}
	if straight < 100 || no < 100 {
		t.Errorf("%d vertices lie on straight lines, %d lists are no rings", straight, no)
	}
}

// P6.4
func TestNormalByHand(t *testing.T) {
	square := of(0, 0, 4, 0, 4, 4, 0, 4)
	for _, x := range []struct {
		what   string
		v      []api.Point
		want   []api.Point
		reason api.Errno
	}{
		{"the form itself", square, square, api.OK},
		{"with a vertex more", of(4, 4, 4, 2, 4, 0, 0, 0, 0, 4), square, api.OK},
		{"begun elsewhere", of(4, 4, 0, 4, 0, 0, 4, 0), square, api.OK},
		{"the other way round", of(0, 0, 0, 4, 4, 4, 4, 0), square, api.OK},
		{"begun with a vertex that is left out", of(2, 0, 4, 0, 4, 4, 0, 4, 0, 0), square, api.OK},
		{"the least vertices are left out", of(0, 2, 0, 1, 0, 0, 4, 0, 4, 4, 0, 4), square, api.OK},
		{"all edges with vertices in their midst", of(0, 1, 0, 0, 1, 0, 2, 0, 3, 0, 4, 0, 4, 1, 4, 3, 4, 4, 3, 4, 0, 4, 0, 3, 0, 2), square, api.OK},
		{"the last one is left out", of(0, 0, 4, 0, 4, 4, 0, 4, 0, 1), square, api.OK},
		{"not convex", of(3, 1, 0, 0, 4, 0, 4, 4), of(0, 0, 4, 0, 4, 4, 3, 1), api.OK},
		{"least by y among the least by x", of(0, 4, 4, 2, 0, 0), of(0, 0, 4, 2, 0, 4), api.OK},
		{"a way straight through a bend", of(0, 0, 4, 0, 8, 0, 8, 4, 4, 4, 4, 2, 4, 1, 0, 1), of(0, 0, 8, 0, 8, 4, 4, 4, 4, 1, 0, 1), api.OK},
		{"the whole lattice", of(edge, edge, edge, -edge, -edge, -edge, -edge, edge), of(-edge, -edge, edge, -edge, edge, edge, -edge, edge), api.OK},
		{"none", nil, nil, api.ErrVerts},
		{"two", square[:2], nil, api.ErrVerts},
		{"65", make([]api.Point, 65), nil, api.ErrVerts},
		{"beyond the lattice", of(0, 0, 4, 0, edge+1, 0), nil, api.ErrBound},
		{"a point twice", of(0, 0, 4, 0, 4, 0, 0, 4), nil, api.ErrSame},
		{"folded back", of(0, 0, 4, 0, 2, 0), nil, api.ErrFold},
		{"crossing", of(0, 0, 4, 4, 4, 0, 0, 4), nil, api.ErrCross},
	} {
		got, reason := Normal(x.v)
		if reason != x.reason || !slices.Equal(got, x.want) {
			t.Errorf("%s: %v, %d", x.what, text(got), reason)
		}
	}
}

// oneSided tells whether all vertices lie to one side of each edge, or on its line.
func oneSided(v []api.Point) bool {
	for i, a := range v {
		b := v[(i+1)%len(v)]
		left, right := false, false
		for _, p := range v {
			side := to(a, b).cross(to(a, p))
			left, right = left || side > 0, right || side < 0
		}
		if left && right {
			return false
		}
	}
	return true
}

// P6.5
func TestConvex(t *testing.T) {
	var seen [2]int
	for _, v := range lists() {
		ring := wrong(v) == fault{}
		want := ring && oneSided(v)
		if got := Convex(v); got != want {
			t.Errorf("Convex of %v: %v", text(v), got)
		}
		if ring && want {
			seen[1]++
		} else if ring {
			seen[0]++
		}
	}
	if seen[0] < 100 || seen[1] < 100 {
		t.Errorf("not both answers are asked for: %v", seen)
	}
}

// P6.5
func TestConvexByHand(t *testing.T) {
	square := of(0, 0, 4, 0, 4, 4, 0, 4)
	for _, x := range []struct {
		what string
		v    []api.Point
		want bool
	}{
		{"a square", square, true},
		{"with the clock", turned(square), true},
		{"three in a row", of(0, 0, 2, 0, 4, 0, 0, 4), true},
		{"three in a row, with the clock", of(0, 4, 4, 0, 2, 0, 0, 0), true},
		{"a vertex inward", of(0, 0, 4, 0, 4, 4, 3, 1), false},
		{"with the clock", of(3, 1, 4, 4, 4, 0, 0, 0), false},
		{"a vertex inward, as little as can be", of(-edge, -edge, edge, -edge, edge, edge, 1, 0), false},
		{"a triangle as thin as can be", of(-edge, -edge, edge, edge-1, edge, edge), true},
		{"a comb", comb(31, 1, 1), false},
		{"a star that turns left at each vertex, twice round", of(0, 10, -6, -8, 9, 3, -9, 3, 6, -8), false},
		{"none", nil, false},
		{"two points", square[:2], false},
		{"beyond the lattice", of(0, 0, edge+1, 0, edge+1, 5), false},
		{"a point twice", of(0, 0, 4, 0, 4, 0, 0, 4), false},
		{"on one line", of(0, 0, 2, 0, 4, 0), false},
		{"crossing", of(0, 0, 4, 4, 4, 0, 0, 4), false},
		{"too many", make([]api.Point, 65), false},
	} {
		if got := Convex(x.v); got != x.want {
			t.Errorf("%s: %v", x.what, got)
		}
	}
}

// room is a list with spare room behind it, which holds something too.
func room(v []api.Point) []api.Point {
	return append(slices.Clone(v), at(77, 78), at(79, 80), at(81, 82))[:len(v)]
}

// P6.4
func TestMemory(t *testing.T) {
	for _, v := range [][]api.Point{
		nil, of(0, 0), of(0, 0, 4, 0, 4, 4, 0, 4), of(4, 4, 4, 2, 4, 0, 0, 0, 0, 4), of(0, 4, 4, 4, 4, 0, 0, 0), of(0, 0, 4, 4, 4, 0, 0, 4), of(0, 0, 4, 0, 4, 0),
	} {
		w, x := room(v), room(v)
		was := slices.Clone(w[:len(v)+3])
		first, _ := Normal(w)
		second, _ := Normal(w)
		Check(w)
		Area2(w)
		Bounds(w)
		pairs(w)
		Convex(w)
		Apart(w, x)
		Apart(w, w)
		want := slices.Clone(second)
		for i := range first[:cap(first)] {
			first[:cap(first)][i] = at(-1, -1)
		}
		if !slices.Equal(second, want) {
			t.Errorf("two answers for %v share memory", text(v))
		}
		if !slices.Equal(w[:len(v)+3], was) || !slices.Equal(x[:len(v)+3], was) {
			t.Errorf("%v became %v", text(was), text(w[:len(v)+3]))
		}
	}
}

package hull

import (
	"math/rand"
	"slices"
	"testing"

	"paddock/api"
)

// P10.1
func TestHull(t *testing.T) {
	var seen [10]int
	for _, v := range lists() {
		want := wantedHull(v)
		seen[min(len(want), 9)]++
		if got := Hull(v); !slices.Equal(got, want) {
			t.Errorf("Hull(%v): %v, want %v", v, got, want)
		}
	}
	for n, count := range seen {
		if count == 0 {
			t.Errorf("no hull has %d corners", n)
		}
	}
}

// P10.1
func TestHullByHand(t *testing.T) {
	for _, x := range []struct{ v, want []api.Point }{
		{nil, nil},
		{[]api.Point{}, nil},
		{of(0, 0), of(0, 0)},
		{of(least, greatest), of(least, greatest)},
		{of(1, 1, 1, 1), of(1, 1)},
		{of(-2, 3, -2, 3, -2, 3), of(-2, 3)},
		{of(3, 3, 1, 1), of(1, 1, 3, 3)},
		{of(3, 3, 1, 1, 2, 2), of(1, 1, 3, 3)},
		{of(1, 1, 3, 3, 1, 1, 3, 3), of(1, 1, 3, 3)},
		{of(5, 2, -1, 2, 3, 2, 0, 2), of(-1, 2, 5, 2)},
		{of(4, 1, 4, -7, 4, 9, 4, 1), of(4, -7, 4, 9)},
		{of(-3, 3, 0, 0, 3, -3, -1, 1), of(-3, 3, 3, -3)},
		{of(0, 1, 0, 0, 1, 0), of(0, 0, 1, 0, 0, 1)},
		{of(0, 0, 0, 1, 1, 0), of(0, 0, 1, 0, 0, 1)},
		{of(0, 0, 4, 0, 2, 1, 4, 4, 0, 4, 2, 0), of(0, 0, 4, 0, 4, 4, 0, 4)},
		{of(0, 0, 2, 0, 4, 0, 4, 2, 4, 4, 2, 4, 0, 4, 0, 2), of(0, 0, 4, 0, 4, 4, 0, 4)},
		{of(0, 0, 2, 0, 4, 0, 4, 0, 2, 4, 2, 4, 0, 0, 1, 2, 3, 2), of(0, 0, 4, 0, 2, 4)},
		{of(2, 0, 0, 2, 2, 4, 4, 2, 2, 2), of(0, 2, 2, 0, 4, 2, 2, 4)},
		{grid(least, 0, greatest), of(least, least, greatest, least, greatest, greatest, least, greatest)},
		{of(greatest, greatest, 0, 0, least, least), of(least, least, greatest, greatest)},
		{of(greatest, greatest, -1, 0, least, least), of(least, least, greatest, greatest, -1, 0)},
		{of(greatest, greatest, 0, -1, least, least), of(least, least, 0, -1, greatest, greatest)},
		{of(least, greatest, -1, 0, greatest, least, 0, -1), of(least, greatest, greatest, least)},
	} {
		if got := Hull(x.v); !slices.Equal(got, x.want) {
			t.Errorf("Hull(%v): %v, want %v", x.v, got, x.want)
		}
	}
}

// P10.1: many corners, each of them told, and many points that are none.
func TestHullOfMany(t *testing.T) {
	r := rand.New(rand.NewSource(1))
	corners := parabola(32767)
	many := shuffled(r, append(slices.Clone(corners), corners[:5000]...))
	for range 50000 {
		x := int32(r.Intn(2*32766+1) - 32766)
		many = append(many, at(x, x*x+1+r.Int31n(32767*32767-x*x)))
	}
	if got := Hull(many); !slices.Equal(got, corners) {
		t.Errorf("%d corners, want %d", len(got), len(corners))
	}
	line := make([]api.Point, 100000)
	for i := range line {
		line[i] = at(int32(i)*3, 7-int32(i)*2)
	}
	if got := Hull(shuffled(r, line)); !slices.Equal(got, []api.Point{line[0], line[len(line)-1]}) {
		t.Errorf("of a line: %d corners, %v", len(got), got[:2])
	}
	if got := Hull(make([]api.Point, 100000)); !slices.Equal(got, of(0, 0)) {
		t.Errorf("of one point, many times: %d corners", len(got))
	}
}

// P10.1, P0.1: what is handed in is not changed, and the answer is new memory.
func TestHullIsNew(t *testing.T) {
	for _, v := range [][]api.Point{of(1, 1), of(1, 1, 1, 1), of(1, 1, 3, 3), of(3, 3, 2, 2, 1, 1), of(0, 0, 4, 0, 4, 4, 0, 4), of(4, 4, 1, 2, 0, 4, 4, 0, 0, 0, 4, 4)} {
		list, all := roomy(v)
		before := slices.Clone(all)
		want := wantedHull(v)
		got := Hull(list)
		if !slices.Equal(all, before) {
			t.Errorf("%v became %v", before, all)
		}
		again := Hull(list)
		spoil(got)
		if !slices.Equal(all, before) || !slices.Equal(again, want) || !slices.Equal(Hull(list), want) {
			t.Errorf("Hull(%v) shares its memory", v)
		}
	}
}

// P10.2
func TestConvex(t *testing.T) {
	var seen [2]int
	for _, v := range lists() {
		want := slices.Equal(v, wantedHull(v))
		if want {
			seen[1]++
		} else {
			seen[0]++
		}
		if got := Convex(v); got != want {
			t.Errorf("Convex(%v): %v", v, got)
		}
	}
	if seen[0] == 0 || seen[1] == 0 {
		t.Errorf("not all answers are asked for: %v", seen)
	}
}

// P10.2: told from another corner on, the other way round, with one more, with one less.
func TestConvexOtherwiseTold(t *testing.T) {
	for _, v := range lists() {
		h := wantedHull(v)
		if !Convex(h) {
			t.Errorf("Convex(%v) is false", h)
		}
		for i := range h {
			double := slices.Insert(slices.Clone(h), i, h[i])
			if Convex(double) {
				t.Errorf("Convex(%v) is true", double)
			}
			if less := slices.Delete(slices.Clone(h), i, i+1); Convex(less) != (i > 0 || len(h) < 2 || isLeast(less)) {
				t.Errorf("Convex(%v) is %v", less, Convex(less))
			}
			for _, told := range [][]api.Point{begun(h, i), begun(reversed(h), i)} {
				if Convex(told) != slices.Equal(told, h) {
					t.Errorf("Convex(%v) is %v, and %v is a hull", told, Convex(told), h)
				}
			}
		}
	}
}

// isLeast tells whether the first one is ahead of all.
func isLeast(v []api.Point) bool { return len(v) > 0 && slices.MinFunc(v, before) == v[0] }

// P10.2
func TestConvexByHand(t *testing.T) {
	for _, x := range []struct {
		v    []api.Point
		want bool
	}{
		{nil, true},
		{[]api.Point{}, true},
		{of(0, 0), true},
		{of(greatest, least), true},
		{of(1, 1, 1, 1), false},
		{of(1, 1, 3, 3), true},
		{of(3, 3, 1, 1), false},
		{of(1, 1, 1, 3), true},
		{of(1, 3, 1, 1), false},
		{of(1, 1, 2, 2, 3, 3), false},
		{of(1, 1, 3, 3, 2, 2), false},
		{of(0, 0, 4, 0, 0, 4), true},
		{of(0, 0, 0, 4, 4, 0), false},
		{of(0, 0, 4, 0, 4, 4, 0, 4), true},
		{of(4, 0, 4, 4, 0, 4, 0, 0), false},
		{of(0, 0, 2, 0, 4, 0, 4, 4, 0, 4), false},
		{of(0, 0, 4, 0, 4, 4, 0, 4, 0, 2), false},
		{of(0, 0, 4, 0, 4, 4, 0, 4, 0, 0), false},
		{of(0, 0, 4, 0, 1, 1, 0, 4), false},
		{of(0, 0, 4, 4, 4, 0, 0, 4), false},
		{of(0, 0, 8, 6, -1, 6, 7, 0, 3, 9), false},
		{of(0, 2, 2, 0, 4, 2, 2, 4), true},
		{of(2, 0, 4, 2, 2, 4, 0, 2), false},
		{of(least, least, greatest, least, greatest, greatest, least, greatest), true},
		{of(greatest, least, greatest, greatest, least, greatest, least, least), false},
	} {
		if got := Convex(x.v); got != x.want {
			t.Errorf("Convex(%v): %v", x.v, got)
		}
	}
	if h := parabola(2000); !Convex(h) || Convex(reversed(h)) || Convex(begun(h, 1)) || !Convex(h[100:]) {
		t.Error("a hull of many corners is told from what is none")
	}
}

// asked are places about a list: its points, those beside them, those between two of them, and others.
func asked(v []api.Point) []api.Point {
	list := append(grid(least, -1, 0, 1, greatest), of(2, 1, -3, 0, 3, 3)...)
	for i, p := range v {
		q := v[(i+1)%len(v)]
		middle := at(int32((int64(p.X)+int64(q.X))>>1), int32((int64(p.Y)+int64(q.Y))>>1))
		list = append(list, p, middle, at(p.X+1, p.Y), at(p.X, p.Y-1), at(middle.X, middle.Y+1), at(middle.X-1, middle.Y))
	}
	return list
}

// P10.3
func TestHas(t *testing.T) {
	var seen [4][2]int
	for i, v := range lists() {
		h := wantedHull(v)
		if i%7 != 0 && len(h) < 5 {
			continue
		}
		for _, p := range asked(v) {
			want := covered(h, p)
			if want {
				seen[min(len(h), 3)][1]++
			} else {
				seen[min(len(h), 3)][0]++
			}
			if got := Has(h, p); got != want {
				t.Errorf("Has(%v, %v): %v", h, p, got)
			}
		}
	}
	for n, count := range seen {
		if count[0] == 0 || count[1] == 0 && n > 0 {
			t.Errorf("of %d corners not all answers are asked for: %v", n, count)
		}
	}
}

// P10.3: a list that is no hull covers nothing.
func TestHasOfNoHull(t *testing.T) {
	none := 0
	for i, v := range lists() {
		if i%5 != 0 || slices.Equal(v, wantedHull(v)) {
			continue
		}
		none++
		for _, p := range asked(v) {
			if Has(v, p) {
				t.Errorf("Has(%v, %v) of what is no hull", v, p)
			}
		}
	}
	if none == 0 {
		t.Error("none of these is no hull")
	}
}

// P10.3
func TestHasByHand(t *testing.T) {
	triangle, square := of(0, 0, 4, 0, 0, 4), of(0, 0, 4, 0, 4, 4, 0, 4)
	all := of(least, least, greatest, least, greatest, greatest, least, greatest)
	for _, x := range []struct {
		h    []api.Point
		p    api.Point
		want bool
	}{
		{nil, at(0, 0), false}, {[]api.Point{}, at(0, 0), false},
		{of(1, 1), at(1, 1), true}, {of(1, 1), at(1, 2), false}, {of(1, 1), at(0, 1), false},
		{of(1, 1, 1, 1), at(1, 1), false},
		{of(0, 0, 4, 4), at(0, 0), true}, {of(0, 0, 4, 4), at(4, 4), true}, {of(0, 0, 4, 4), at(2, 2), true},
		{of(0, 0, 4, 4), at(5, 5), false}, {of(0, 0, 4, 4), at(-1, -1), false}, {of(0, 0, 4, 4), at(2, 3), false}, {of(0, 0, 4, 4), at(2, 1), false},
		{of(4, 4, 0, 0), at(2, 2), false},
		{triangle, at(2, 2), true}, {triangle, at(3, 2), false}, {triangle, at(0, 0), true}, {triangle, at(4, 0), true}, {triangle, at(0, 4), true},
		{triangle, at(3, 0), true}, {triangle, at(0, 1), true}, {triangle, at(1, 1), true}, {triangle, at(5, 0), false}, {triangle, at(5, -1), false},
		{triangle, at(-1, 0), false}, {triangle, at(0, 5), false}, {triangle, at(1, -1), false}, {triangle, at(-1, 2), false},
		{begun(triangle, 1), at(1, 1), false}, {reversed(triangle), at(1, 1), false}, {begun(reversed(triangle), 2), at(1, 1), false},
		{square, at(4, 4), true}, {square, at(2, 4), true}, {square, at(0, 3), true}, {square, at(3, 3), true}, {square, at(2, 5), false}, {square, at(5, 2), false}, {square, at(2, -1), false}, {square, at(-1, 2), false},
		{of(0, 0, 2, 0, 4, 0, 4, 4, 0, 4), at(2, 2), false},
		{all, at(least, least), true}, {all, at(greatest, least), true}, {all, at(0, 0), true}, {all, at(greatest, 5), true}, {all, at(least, greatest), true},
		{of(least, least, greatest, greatest), at(0, 0), true}, {of(least, least, greatest, greatest), at(0, 1), false},
		{of(least, least, greatest, greatest, -1, 0), at(-1, 0), true}, {of(least, least, greatest, greatest, -1, 0), at(0, -1), false}, {of(least, least, greatest, greatest, -1, 0), at(-1, -1), true},
	} {
		if got := Has(x.h, x.p); got != x.want {
			t.Errorf("Has(%v, %v): %v", x.h, x.p, got)
		}
	}
}

// P10.2, P10.3, P0.1: what is handed in is not changed.
func TestConvexAndHasLeaveTheirList(t *testing.T) {
	for _, v := range [][]api.Point{nil, of(5, 5), of(0, 0, 4, 4), of(4, 4, 0, 0), of(0, 0, 4, 0, 4, 4, 0, 4), of(4, 0, 0, 4, 0, 0, 4, 4)} {
		list, all := roomy(v)
		before := slices.Clone(all)
		Convex(list)
		Has(list, at(1, 1))
		if !slices.Equal(all, before) {
			t.Errorf("%v became %v", before, all)
		}
	}
}

// P10.6
func TestHullOfHull(t *testing.T) {
	r := rand.New(rand.NewSource(2))
	for _, v := range lists() {
		h := Hull(v)
		if again := Hull(h); !slices.Equal(again, h) || !Convex(h) {
			t.Errorf("Hull(%v): %v, and its hull %v", v, h, again)
		}
		for _, p := range v {
			if !Has(h, p) {
				t.Errorf("Hull(%v) has not %v", v, p)
			}
		}
		for _, p := range h {
			if !slices.Contains(v, p) {
				t.Errorf("Hull(%v) has a corner %v", v, p)
			}
		}
		doubled := append(shuffled(r, v), v...)
		for _, w := range [][]api.Point{shuffled(r, v), reversed(v), doubled} {
			if got := Hull(w); !slices.Equal(got, h) {
				t.Errorf("Hull(%v): %v, and of %v: %v", v, h, w, got)
			}
		}
	}
}

// P10.6: what is covered adds nothing, what is not does.
func TestHullOfMore(t *testing.T) {
	more, out := 0, 0
	for i, v := range lists() {
		if i%7 != 0 {
			continue
		}
		h := Hull(v)
		w := slices.Clone(v)
		for _, p := range asked(v) {
			if Has(h, p) {
				more++
				w = append(w, p)
			} else if out++; slices.Equal(Hull(append(slices.Clone(v), p)), h) {
				t.Errorf("Hull(%v) stays with %v, which it has not", v, p)
			}
		}
		if got := Hull(w); !slices.Equal(got, h) {
			t.Errorf("Hull(%v): %v, and of %v: %v", v, h, w, got)
		}
	}
	if more == 0 || out == 0 {
		t.Error("nothing was covered, or nothing was not")
	}
}

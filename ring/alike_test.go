package ring

import (
	"math/rand"
	"slices"
	"testing"

	"paddock/api"
	"paddock/wide"
)

func normal(t *testing.T, v []api.Point) []api.Point {
	w, reason := Normal(v)
	if reason != api.OK {
		t.Fatalf("Normal of %v: %d", text(v), reason)
	}
	return w
}

func size(n wide.Int) wide.Int {
	if n.Sign() < 0 {
		return n.Neg()
	}
	return n
}

// P6.7
func TestNormalIsARing(t *testing.T) {
	for _, v := range rings() {
		w := normal(t, v)
		if got := checked(w); got != (fault{}) {
			t.Errorf("the Normal of %v is no ring: %v", text(v), got)
		}
		if again := normal(t, w); !slices.Equal(again, w) {
			t.Errorf("%v has the Normal %v, and that one %v", text(v), text(w), text(again))
		}
		if Area2(w) != size(Area2(v)) {
			t.Errorf("%v has the Area2 %s, its Normal %s", text(v), Area2(v).Text(), Area2(w).Text())
		}
		box, _ := Bounds(v)
		if got, _ := Bounds(w); got != box {
			t.Errorf("%v has the Bounds %v, its Normal %v", text(v), box, got)
		}
	}
}

// P6.7
func TestNormalStays(t *testing.T) {
	r := rand.New(rand.NewSource(4))
	longer, longest := 0, 0
	for _, v := range rings() {
		want := normal(t, v)
		for i := range v {
			for _, w := range [][]api.Point{begun(v, i), turned(begun(v, i))} {
				if got := normal(t, w); !slices.Equal(got, want) {
					t.Errorf("%v has the Normal %v, %v has %v", text(v), text(want), text(w), text(got))
				}
			}
			if len(v) > 8 && r.Intn(8) > 0 {
				break
			}
		}
		// Vertices more, as many as go.
		w := v
		for range 3 * api.MaxVerts {
			if x, ok := halved(w, r.Intn(len(w))); ok && len(x) <= api.MaxVerts {
				w = x
				longer++
			}
		}
		if len(w) == api.MaxVerts {
			longest++
		}
		if got := normal(t, begun(w, r.Intn(len(w)))); !slices.Equal(got, want) {
			t.Errorf("%v has the Normal %v, %v has %v", text(v), text(want), text(w), text(got))
		}
	}
	if longer < 100 || longest < 10 {
		t.Errorf("%d vertices were put in the midst of edges, %d lists are as long as can be", longer, longest)
	}
}

// traced are the points of the edges of a ring on the small grid, of a lattice sixteen times as fine: so many of each edge that the few others, where they cross it, can't cover them.
func traced(v []api.Point) string {
	var list []api.Point
	for x := range int32(33) {
		for y := range int32(33) {
			p, on := at(x-16, y-16), 0
			for i, a := range v {
				b := v[(i+1)%len(v)]
				on += common(p, p, at(16*a.X, 16*a.Y), at(16*b.X, 16*b.Y))
			}
			if on > 0 {
				list = append(list, p)
			}
		}
	}
	return text(list)
}

// P6.7
func TestNormalTellsEdgesApart(t *testing.T) {
	list := append(tuples(3, grid(-1, 0, 1)), tuples(4, grid(-1, 0, 1))...)
	r := rand.New(rand.NewSource(5))
	for range 20000 {
		list = append(list, picked(r, 5+r.Intn(2), grid(-1, 0, 1)))
	}
	forms, edges := map[string]string{}, map[string]string{}
	all := 0
	for _, v := range list {
		if (wrong(v) != fault{}) {
			continue
		}
		all++
		form, trace := text(normal(t, v)), traced(v)
		if was, ok := forms[trace]; ok && was != form {
			t.Errorf("%v has the Normal %v, another one with its edges %v", text(v), form, was)
		}
		if was, ok := edges[form]; ok && was != trace {
			t.Errorf("%v has the Normal %v of one with other edges", text(v), form)
		}
		forms[trace], edges[form] = form, trace
	}
	if len(forms) < 100 || all < 4*len(forms) {
		t.Errorf("%d rings with %d forms", all, len(forms))
	}
}

// moved are points moved by a way, if 32 bits hold them.
func moved(v []api.Point, x, y int64) ([]api.Point, bool) {
	var list []api.Point
	for _, p := range v {
		x, y := int64(p.X)+x, int64(p.Y)+y
		if min(x, y) < least || max(x, y) > greatest {
			return nil, false
		}
		list = append(list, at(int32(x), int32(y)))
	}
	return list, true
}

// P6.8
func TestArea2Stays(t *testing.T) {
	ways := []way{{1, 0}, {0, -1}, {12345, -54321}, {edge, edge}, {-edge - 1, edge + 1}, {1 << 30, 0}, {-1 << 30, -1 << 30}, {1<<31 - 1 - edge, 1<<31 - 1 - edge}, {edge - 1<<31, edge - 1<<31}, {1<<31 - 2, 2 - 1<<31}}
	counts := make([]int, len(ways))
	for _, v := range rings() {
		want := Area2(v)
		if want == (wide.Int{}) {
			t.Errorf("the ring %v has the Area2 0", text(v))
		}
		for n, by := range ways {
			if w, ok := moved(v, by.x, by.y); ok {
				counts[n]++
				if got := Area2(w); got != want {
					t.Errorf("%v has the Area2 %s, moved by %v %s", text(v), want.Text(), by, got.Text())
				}
			}
		}
	}
	for n, count := range counts {
		if count < 10 {
			t.Errorf("%d rings are moved by %v", count, ways[n])
		}
	}
}

// P6.8
func TestArea2TurnsOver(t *testing.T) {
	for _, v := range lists() {
		want := Area2(v)
		if got := Area2(turned(v)); got != want.Neg() {
			t.Errorf("%v has the Area2 %s, turned about %s", text(v), want.Text(), got.Text())
		}
		for i := range min(len(v), 8) {
			if got := Area2(begun(v, i)); got != want {
				t.Errorf("%v has the Area2 %s, begun with the vertex %d %s", text(v), want.Text(), i, got.Text())
			}
		}
	}
}

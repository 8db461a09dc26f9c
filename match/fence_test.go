package match

import (
	"fmt"
	"slices"
	"testing"

	"paddock/api"
	"paddock/shape"
)

// wrongShapes are shapes that may not be, one of each reason.
func wrongShapes() []api.Shape {
	nine := slices.Repeat([][]api.Point{square(1, 1, 1)}, 9)
	return []api.Shape{
		{}, {Kind: 5, Verts: of(0, 0)}, {Kind: 255},
		{Kind: api.Rect, Verts: of(0, 0, 1, 1), Size: 1}, {Kind: api.Rect, Verts: of(0, 0)}, {Kind: api.Rect}, rectOf(3, 0, 2, 9), rectOf(0, 0, bound+1, 0),
		{Kind: api.Disc}, {Kind: api.Disc, Verts: of(0, 0, 1, 1)}, discOf(0, 0, -1), discOf(0, 0, api.MaxRadius+1), discOf(0, least, 5), {Kind: api.Disc, Verts: of(0, 0), Holes: [][]api.Point{square(0, 0, 1)}},
		corridorOf(1), corridorOf(1, 0, 0), corridorOf(1, 0, 0, 0, 0), corridorOf(-1, 0, 0, 1, 1), corridorOf(0, 0, 0, greatest, 0), corridorOf(1, make([]int32, 34)...),
		polyOf(nil), polyOf(of(0, 0, 1, 1)), polyOf(of(0, 0, 5, 5, 5, 0, 0, 5)), polyOf(of(0, 0, 0, 0, 5, 5)), polyOf(make([]api.Point, 65)),
		polyOf(square(0, 0, 9), square(20, 20, 2)), polyOf(square(0, 0, 9), square(0, 0, 2)), polyOf(square(0, 0, 9), nine...), polyOf(square(0, 0, 9), of(1, 1)), {Kind: api.Poly, Verts: square(0, 0, 9), Size: 3},
	}
}

// P19.5: a shape that may not be is refused, for layer 9's reason, ahead of what else is wrong; then a number that is there, ahead of Full; nothing has changed.
func TestFenceRefused(t *testing.T) {
	for room := 1; room <= 2; room++ {
		ws, p := made(t, 1, room, going(1, at(0, 0), 0), fencing(fenceOf(5, 3, rectOf(-1, -1, 1, 1)), 0))
		for _, s := range wrongShapes() {
			for _, id := range []uint32{0, 4, 5, 6, topmost} {
				what := fmt.Sprint("Fence ", id, " of ", s)
				a := both(t, what, ws, p, fencing(fenceOf(id, 1, s), 1))
				wantErr(t, what, a.err, shape.Check(s))
				wantTrue(t, what, a.err != api.OK, true)
			}
		}
		for _, s := range []api.Shape{rectOf(-1, -1, 1, 1), discOf(9, 9, 9), holed()} {
			wantErr(t, "there", both(t, "Fence", ws, p, fencing(fenceOf(5, 0, s), 1)).err, api.ErrThere)
			if room == 1 {
				for _, id := range []uint32{0, 4, 6, topmost} {
					wantErr(t, "full", both(t, "Fence", ws, p, fencing(fenceOf(id, 0, s), 1)).err, api.ErrFull)
				}
			}
		}
		wantWorlds(t, "nothing has changed", ws, p)
		wantBriefs(t, "still there", both(t, "Update", ws, p, going(1, at(9, 9), 2)).events, left(1, 5))
	}
}

// P19.5: a fence of each kind, and of the greatest of each, is put in round those that it covers: none, one and several.
func TestFenceRound(t *testing.T) {
	spots := of(0, 0, 1, 1, 3, 4, 4, 4, 9, 9, -bound, -bound, bound, bound)
	hull := make([]api.Point, 64)
	for i := range hull {
		hull[i] = at(int32(min(i, 63-i)), int32(i))
	}
	for _, x := range []struct {
		s  api.Shape
		in []uint32
	}{
		{rectOf(5, 0, 8, 8), nil}, {rectOf(3, 3, 4, 4), []uint32{2, 3}}, {discOf(0, 0, 5), []uint32{0, 1, 2}}, {discOf(9, 9, 0), []uint32{4}},
		{holed(), []uint32{0, 1, 2, 4}}, {corridorOf(0, 0, 0, 9, 9), []uint32{0, 1, 3, 4}}, {rectOf(-bound, -bound, bound, bound), []uint32{0, 1, 2, 3, 4, 5, 6}},
		{corridorOf(api.MaxRadius, 0, 0, bound, bound), []uint32{0, 1, 2, 3, 4, 6}}, {polyOf(hull), []uint32{0, 1, 2, 3, 4}},
	} {
		for _, dwell := range []uint32{0, 1, topmost} {
			what := fmt.Sprint("Fence of ", x.s)
			ws, p := made(t, 7, 1)
			for i, q := range spots {
				both(t, "Update", ws, p, going(uint32(i), q, 0))
			}
			var want []brief
			for _, o := range x.in {
				want = append(want, entered(o, 8))
			}
			wantBriefs(t, what, both(t, what, ws, p, fencing(fenceOf(8, dwell, x.s), 0)).events, want...)
			wantWorlds(t, what, ws, p)
		}
	}
}

// P19.5: what is put in is told again as it was, of each kind of shape.
func TestFencesAsTheyWere(t *testing.T) {
	shapes := []api.Shape{rectOf(0, 0, 1, 1), discOf(4, 5, 6), holed(), polyOf(square(0, 0, 20), square(1, 1, 3), of(9, 9, 12, 9, 12, 12)), corridorOf(3, 0, 0, 5, 5, 7, -2), {Kind: api.Disc, Verts: of(0, 0), Holes: [][]api.Point{}}}
	ws, p := made(t, 1, 8)
	for i, s := range shapes {
		both(t, "Fence", ws, p, fencing(fenceOf(uint32(90-i), uint32(i)*7, s), 5))
	}
	for _, w := range ws {
		for i, f := range w.Fences() {
			k := len(shapes) - 1 - i
			wantTrue(t, fmt.Sprint(f), sameFence(f, fenceOf(uint32(90-k), uint32(k)*7, shapes[k])), true)
		}
	}
	wantWorlds(t, "put in", ws, p)
}

// P19.5, P19.7: a fence with a Dwell that is put in round somebody has a stay of it from then on.
func TestFenceWithDwellRound(t *testing.T) {
	ws, p := made(t, 3, 3, going(1, at(0, 0), 0), going(2, at(0, 0), 0), going(3, at(40, 0), 0),
		fencing(fenceOf(5, 4, rectOf(0, 0, 9, 9)), 10), fencing(fenceOf(6, 0, rectOf(0, 0, 9, 9)), 11), fencing(fenceOf(7, 1, rectOf(0, 0, 99, 9)), 12))
	for _, w := range ws {
		want := []api.Due{{At: 13, Object: 1, Fence: 7}, {At: 13, Object: 2, Fence: 7}, {At: 13, Object: 3, Fence: 7}, {At: 14, Object: 1, Fence: 5}, {At: 14, Object: 2, Fence: 5}}
		wantTrue(t, fmt.Sprint(w.Dues()), slices.Equal(w.Dues(), want), true)
	}
	wantWorlds(t, "put in", ws, p)
}

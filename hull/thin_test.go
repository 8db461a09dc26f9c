package hull

import (
	"math"
	"slices"
	"testing"

	"paddock/api"
	"paddock/point"
	"paddock/seg"
)

// wantThin fails, unless Thin keeps these, and OK.
func wantThin(t *testing.T, v []api.Point, tol int64, want []api.Point) {
	t.Helper()
	if got, e := Thin(v, tol); e != api.OK || !slices.Equal(got, want) {
		t.Errorf("Thin(%v, %d): %v, %d, want %v", v[:min(len(v), 20)], tol, got[:min(len(got), 20)], e, want[:min(len(want), 20)])
	}
}

// tolerances are those to be tried: few, and those about how far the furthest one is off, at first and behind the first cut.
func tolerances(v []api.Point) []int64 {
	list := []int64{0, 1, 2, api.FarRadius - 1, api.FarRadius}
	if len(v) < 3 {
		return list
	}
	cut, off := furthestOff(v, 0, len(v)-1)
	_, next := furthestOff(v, cut, len(v)-1)
	for _, tol := range []int64{reaching(off), reaching(next)} {
		list = append(list, tol-1, tol, tol+1)
	}
	within := func(tol int64) bool { return tol < 0 || tol > api.FarRadius }
	return slices.DeleteFunc(list, within)
}

// P10.5
func TestThin(t *testing.T) {
	var seen [3]int
	for _, v := range lines() {
		for _, tol := range tolerances(v) {
			want := wantedThin(v, tol)
			wantThin(t, v, tol, want)
			switch len(want) {
			case len(v):
				seen[0]++
			case 2:
				seen[1]++
			default:
				seen[2]++
			}
		}
	}
	if seen[0] < 100 || seen[1] < 100 || seen[2] < 100 {
		t.Errorf("of all, none and some are kept %v", seen)
	}
}

// P10.5
func TestThinByHand(t *testing.T) {
	bump := of(0, 0, 5, 1, 10, 0)
	for _, x := range []struct {
		v    []api.Point
		tol  int64
		want []api.Point
	}{
		{nil, 0, nil}, {[]api.Point{}, 3, nil}, {nil, api.FarRadius, nil},
		{of(1, 1), 3, of(1, 1)}, {of(1, 1, 1, 1), api.FarRadius, of(1, 1, 1, 1)}, {of(3, 1, -5, 2), 0, of(3, 1, -5, 2)},
		{of(edge, -edge), 0, of(edge, -edge)},
		{bump, 1, of(0, 0, 10, 0)}, {bump, 0, bump}, {bump, api.FarRadius, of(0, 0, 10, 0)},
		{of(0, 0, 5, 0, 10, 0), 0, of(0, 0, 10, 0)},
		{of(0, 0, 1, 0, 1, 1), 0, of(0, 0, 1, 0, 1, 1)}, {of(0, 0, 1, 0, 1, 1), 1, of(0, 0, 1, 1)},
		// The ends are one point.
		{of(0, 0, 10, 0, 0, 0), 5, of(0, 0, 10, 0, 0, 0)}, {of(0, 0, 10, 0, 0, 0), 9, of(0, 0, 10, 0, 0, 0)}, {of(0, 0, 10, 0, 0, 0), 10, of(0, 0, 0, 0)},
		{of(2, 2, 2, 2, 2, 2), 0, of(2, 2, 2, 2)}, {of(2, 2, 3, 3, 2, 2), 1, of(2, 2, 3, 3, 2, 2)}, {of(2, 2, 3, 3, 2, 2), 2, of(2, 2, 2, 2)},
		{of(2, 2, 5, 6, 2, 2, 5, 6), 4, of(2, 2, 5, 6)},
		// What is nearest is an end.
		{of(0, 0, 20, 0, 10, 0), 9, of(0, 0, 20, 0, 10, 0)}, {of(0, 0, 20, 0, 10, 0), 10, of(0, 0, 10, 0)},
		{of(0, 0, -3, 4, 10, 0), 4, of(0, 0, -3, 4, 10, 0)}, {of(0, 0, -3, 4, 10, 0), 5, of(0, 0, 10, 0)},
		{of(0, 0, 13, 4, 10, 0), 4, of(0, 0, 13, 4, 10, 0)}, {of(0, 0, 13, 4, 10, 0), 5, of(0, 0, 10, 0)},
		{of(0, 0, 0, 5, 10, 0), 4, of(0, 0, 0, 5, 10, 0)}, {of(0, 0, 10, 5, 10, 0), 5, of(0, 0, 10, 0)},
		// Of several that are as far off the first is taken.
		{of(0, 0, 4, 3, 5, 3, 9, 0), 2, of(0, 0, 4, 3, 9, 0)}, {of(0, 0, 5, 3, 4, 3, 9, 0), 2, of(0, 0, 5, 3, 9, 0)},
		{of(0, 0, -3, 4, 5, -5, 10, 0), 4, of(0, 0, -3, 4, 5, -5, 10, 0)},
		{of(0, 0, 4, 3, 5, -3, 9, 0), 2, of(0, 0, 4, 3, 5, -3, 9, 0)},
		{of(0, 0, 5, 5, 13, 4, 10, 0), 4, of(0, 0, 5, 5, 13, 4, 10, 0)}, {of(0, 0, 13, 4, 8, 5, 10, 0), 4, of(0, 0, 13, 4, 8, 5, 10, 0)},
		{of(0, 0, 3, 4, 5, 0, 4, 3, 0, 0), 4, of(0, 0, 3, 4, 0, 0)}, {of(0, 0, 4, 3, 5, 0, 3, 4, 0, 0), 4, of(0, 0, 4, 3, 0, 0)},
		// Further off by less than any real number tells: the second one is taken.
		{of(-edge, -edge, 0, 100, 1, 101, edge, edge-1), 70, of(-edge, -edge, 1, 101, edge, edge-1)},
		{of(-edge, -edge, 1, 101, 0, 100, edge, edge-1), 70, of(-edge, -edge, 1, 101, edge, edge-1)},
		// The greatest distances.
		{of(-edge, -edge, edge, edge, -edge, -edge), api.FarRadius, of(-edge, -edge, -edge, -edge)},
		{of(-edge, -edge, edge, edge, -edge, -edge), api.FarRadius - 1, of(-edge, -edge, edge, edge, -edge, -edge)},
		{of(-edge, -edge, edge, -edge, edge, edge), 1518500247, of(-edge, -edge, edge, -edge, edge, edge)},
		{of(-edge, -edge, edge, -edge, edge, edge), 1518500249, of(-edge, -edge, edge, edge)},
		{of(-edge, -edge, edge, -edge, edge, edge, -edge, edge, -edge, -edge), 2147483646, of(-edge, -edge, edge, edge, -edge, -edge)},
		{of(-edge, 0, edge, 0, -edge, 0, edge, 0), 0, of(-edge, 0, edge, 0)},
	} {
		wantThin(t, x.v, x.tol, x.want)
		if want := wantedThin(x.v, x.tol); !slices.Equal(x.want, want) {
			t.Errorf("%v by %d should be %v, by hand it is %v", x.v, x.tol, want, x.want)
		}
	}
}

// P10.5: as long as may be, and one longer; no line is too deep.
func TestThinLong(t *testing.T) {
	long := zigzag(api.MaxThin)
	wantThin(t, long, 0, long)
	wantThin(t, long, 2, []api.Point{long[0], long[len(long)-1]})
	wantThin(t, reversed(long), 0, reversed(long))
	wantThin(t, make([]api.Point, api.MaxThin), 0, make([]api.Point, 2))
	curve := parabola(2047)
	wantThin(t, curve, 0, curve)
	short := zigzag(100)
	for tol := range int64(3) {
		wantThin(t, short, tol, wantedThin(short, tol))
		wantThin(t, reversed(short), tol, wantedThin(reversed(short), tol))
	}
	for _, tol := range []int64{math.MinInt64, -1, 0, 1, api.FarRadius, api.FarRadius + 1, math.MaxInt64} {
		wantFault(t, make([]api.Point, api.MaxThin+1), tol, api.ErrLong)
		wantFault(t, zigzag(api.MaxThin+1), tol, api.ErrLong)
	}
	wantFault(t, make([]api.Point, 1<<20), 0, api.ErrLong)
}

// wantFault fails, unless Thin answers an error alone.
func wantFault(t *testing.T, v []api.Point, tol int64, want api.Errno) {
	t.Helper()
	if got, e := Thin(v, tol); e != want || len(got) != 0 {
		t.Errorf("Thin of %d points by %d: %d and %d points, want %d", len(v), tol, e, len(got), want)
	}
}

// P10.5
func TestThinFaults(t *testing.T) {
	wrong := []int64{-1, -2, math.MinInt64, math.MinInt64 + 1, api.FarRadius + 1, api.FarRadius + 2, 1 << 32, 1 << 62, math.MaxInt64, -api.FarRadius}
	for _, tol := range wrong {
		for _, v := range [][]api.Point{nil, {}, of(1, 1), of(1, 1, 2, 2), of(0, 0, 5, 1, 10, 0), of(edge+1, 0), of(least, least, 0, 0, 1, 1), make([]api.Point, api.MaxThin)} {
			wantFault(t, v, tol, api.ErrArg)
		}
		wantFault(t, append(make([]api.Point, api.MaxThin), at(edge+1, 0)), tol, api.ErrLong)
	}
	outside := of(edge+1, 0, -edge-1, 0, 0, edge+1, 0, -edge-1, least, 0, 0, greatest, greatest, least)
	for _, p := range outside {
		for _, tol := range []int64{0, 1, api.FarRadius} {
			wantFault(t, []api.Point{p}, tol, api.ErrPlace)
			for i := range 4 {
				wantFault(t, slices.Insert(of(0, 0, 5, 1, 10, 0), i, p), tol, api.ErrPlace)
			}
			wantFault(t, []api.Point{p, p}, tol, api.ErrPlace)
			wantFault(t, append(make([]api.Point, api.MaxThin-1), p), tol, api.ErrPlace)
			wantFault(t, append(make([]api.Point, api.MaxThin), p), tol, api.ErrLong)
		}
	}
	rim := of(edge, edge, -edge, edge, edge, -edge, -edge, -edge)
	wantThin(t, rim, 0, wantedThin(rim, 0))
}

// P10.5, P0.1: what is handed in is not changed, and the answer is new memory.
func TestThinIsNew(t *testing.T) {
	for _, v := range [][]api.Point{nil, of(1, 1), of(1, 1, 3, 3), of(0, 0, 5, 1, 10, 0), of(0, 0, 5, 0, 10, 0), of(4, 4, 1, 2, 0, 4, 4, 0, 0, 0, 4, 4)} {
		for _, tol := range []int64{0, 1, api.FarRadius} {
			list, all := roomy(v)
			before := slices.Clone(all)
			want := wantedThin(v, tol)
			got, _ := Thin(list, tol)
			if !slices.Equal(all, before) {
				t.Errorf("%v became %v", before, all)
			}
			again, _ := Thin(list, tol)
			spoil(got)
			if !slices.Equal(all, before) || !slices.Equal(again, want) {
				t.Errorf("Thin(%v, %d) shares its memory", v, tol)
			}
		}
	}
}

// leftOut tells of each point that is left out of a line the two kept ones beside it; what is kept is found from the front on, each as early as may be.
func leftOut(t *testing.T, v, kept []api.Point, near func(p, a, b api.Point) bool) {
	t.Helper()
	if len(kept) < 2 || kept[0] != v[0] || kept[len(kept)-1] != v[len(v)-1] {
		t.Errorf("of %v the ends are not kept: %v", v, kept)
		return
	}
	if !divides(v, kept, near) {
		t.Errorf("of %v is kept %v: one that is left out is not near", v, kept)
	}
}

// divides tells whether a line's points can be those that are kept, in their order, and others that are near between these.
func divides(v, kept []api.Point, near func(p, a, b api.Point) bool) bool {
	// starts are the places at which the kept one so far may stand.
	starts := []int{0}
	for i := 1; i < len(kept); i++ {
		var next []int
		for _, from := range starts {
			for to := from + 1; to < len(v); to++ {
				if v[to] == kept[i] {
					next = append(next, to)
				}
				if !near(v[to], kept[i-1], kept[i]) {
					break
				}
			}
		}
		slices.Sort(next)
		starts = slices.Compact(next)
	}
	return slices.Contains(starts, len(v)-1)
}

// P10.8
func TestThinLeavesOutWhatIsNear(t *testing.T) {
	left := 0
	for _, v := range lines() {
		if len(v) < 3 {
			continue
		}
		for _, tol := range tolerances(v) {
			kept, _ := Thin(v, tol)
			left += len(v) - len(kept)
			leftOut(t, v, kept, func(p, a, b api.Point) bool { return seg.Near(p, a, b, tol) })
			if tol == api.FarRadius && len(kept) != 2 {
				t.Errorf("of %v by %d is kept %v", v, tol, kept)
			}
		}
	}
	if left == 0 {
		t.Error("nothing was left out")
	}
}

// P10.8
func TestThinByNothing(t *testing.T) {
	left := 0
	for _, v := range lines() {
		if len(v) < 3 {
			continue
		}
		kept, _ := Thin(v, 0)
		left += len(v) - len(kept)
		leftOut(t, v, kept, point.On)
	}
	if left == 0 {
		t.Error("nothing was left out")
	}
}

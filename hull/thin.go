package hull

import (
	"slices"

	"paddock/api"
	"paddock/point"
	"paddock/wide"
)

// Thin leaves out points of a line that lie no further off than tol (P10.5).
func Thin(v []api.Point, tol int64) ([]api.Point, api.Errno) {
	if e := fault(v, tol); e != api.OK {
		return nil, e
	}
	if len(v) < 3 {
		return slices.Clone(v), api.OK
	}
	return thinned(v, tol), api.OK
}

// fault is what is wrong first.
func fault(v []api.Point, tol int64) api.Errno {
	outside := func(p api.Point) bool { return !point.In(p) }
	switch {
	case len(v) > api.MaxThin:
		return api.ErrLong
	case tol < 0 || tol > api.FarRadius:
		return api.ErrArg
	case slices.ContainsFunc(v, outside):
		return api.ErrPlace
	}
	return api.OK
}

// stretch is a part of a line, by the places of its ends.
type stretch struct{ from, to int }

// thinned goes through the stretches on a stack, the one that is next in the line on top, so that what is kept comes in its order: of each that is cut no more its beginning, and the line's end.
func thinned(v []api.Point, tol int64) []api.Point {
	var kept []api.Point
	last := len(v) - 1
	for waiting := []stretch{{0, last}}; len(waiting) > 0; {
		top := len(waiting) - 1
		next := waiting[top]
		waiting = waiting[:top]
		cut, ok := cutAt(v[next.from:next.to+1], tol)
		if !ok {
			kept = append(kept, v[next.from])
			continue
		}
		cut += next.from
		waiting = append(waiting, stretch{cut, next.to}, stretch{next.from, cut})
	}
	return append(kept, v[last])
}

// cutAt is the place of the point that is the furthest off the segment between a line's ends, and true, if it is further off than tol.
func cutAt(line []api.Point, tol int64) (int, bool) {
	last := len(line) - 1
	base := baseOf(line[0], line[last])
	// What is not above the tolerance may as well not be there. Its square is below 2^63, as FarRadius's is.
	most := wide.Mul(tol*tol, base.scale)
	place := 0
	for i := 1; i < last; i++ {
		if off := base.off(line[i]); off.Cmp(most) > 0 {
			most, place = off, i
		}
	}
	return place, place > 0
}

// base is a segment that points are off by squares, told as whole numbers: times scale, which is the square of its length, or 1, if it is one point.
type base struct {
	from, to api.Point
	scale    int64
}

func baseOf(from, to api.Point) base {
	return base{from, to, max(point.Dist2(from, to), 1)}
}

// off is the square of the distance from p to the segment, times scale.
func (s base) off(p api.Point) wide.Int {
	along := point.Dot(s.from, s.to, p)
	if along <= 0 {
		return wide.Mul(point.Dist2(s.from, p), s.scale)
	}
	if along >= s.scale {
		return wide.Mul(point.Dist2(s.to, p), s.scale)
	}
	across := point.Cross(s.from, s.to, p)
	return wide.Mul(across, across)
}

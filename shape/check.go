package shape

import (
	"slices"

	"paddock/api"
	"paddock/inside"
	"paddock/point"
	"paddock/ring"
)

// Check tells what is wrong with a shape first (P9.1).
func Check(s api.Shape) api.Errno {
	if s.Kind < api.Poly || s.Kind > api.Corridor {
		return api.ErrKind
	}
	if foreign(s) {
		return api.ErrForeign
	}
	switch s.Kind {
	case api.Poly:
		return polyFault(s.Verts, s.Holes)
	case api.Disc:
		return discFault(s.Verts[0], s.Size)
	case api.Rect:
		return rectFault(s.Verts[0], s.Verts[1])
	}
	return corridorFault(s.Verts, s.Size)
}

// foreign tells whether a shape has what its kind has no field for. A ring and a corridor have reasons of their own for how many points they have.
func foreign(s api.Shape) bool {
	switch s.Kind {
	case api.Poly:
		return s.Size != 0
	case api.Disc:
		return len(s.Holes) > 0 || len(s.Verts) != 1
	case api.Rect:
		return len(s.Holes) > 0 || s.Size != 0 || len(s.Verts) != 2
	}
	return len(s.Holes) > 0
}

func polyFault(verts []api.Point, holes [][]api.Point) api.Errno {
	if reason, _, _ := ring.Check(verts); reason != api.OK {
		return reason
	}
	if len(holes) > api.MaxHoles {
		return api.ErrHoles
	}
	for _, h := range holes {
		if reason, _, _ := ring.Check(h); reason != api.OK {
			return reason
		}
	}
	if !within(verts, holes) || !apart(holes) {
		return api.ErrHole
	}
	return api.OK
}

// within tells whether each hole lies inside a ring. Where no edges meet, all of a hole lies where its first point does.
func within(verts []api.Point, holes [][]api.Point) bool {
	for _, h := range holes {
		if !ring.Apart(verts, h) || !inside.Covers(verts, h[0]) {
			return false
		}
	}
	return true
}

// apart tells whether no two holes have a point in common.
func apart(holes [][]api.Point) bool {
	for i, h := range holes {
		for _, other := range holes[i+1:] {
			if !ring.Apart(h, other) || inside.Covers(h, other[0]) || inside.Covers(other, h[0]) {
				return false
			}
		}
	}
	return true
}

func discFault(middle api.Point, size int32) api.Errno {
	if !point.In(middle) {
		return api.ErrBound
	}
	return sizeFault(size)
}

func rectFault(first, second api.Point) api.Errno {
	switch {
	case !point.In(first) || !point.In(second):
		return api.ErrBound
	case !point.Right(api.Box{Min: first, Max: second}):
		return api.ErrCorners
	}
	return api.OK
}

func corridorFault(bends []api.Point, size int32) api.Errno {
	switch {
	case len(bends) < api.MinBends || len(bends) > api.MaxBends:
		return api.ErrBends
	case slices.ContainsFunc(bends, outside):
		return api.ErrBound
	case standing(bends):
		return api.ErrBends
	}
	return sizeFault(size)
}

func outside(p api.Point) bool { return !point.In(p) }

// standing tells whether two neighbours are one point.
func standing(bends []api.Point) bool {
	for i, b := range bends[1:] {
		if b == bends[i] {
			return true
		}
	}
	return false
}

func sizeFault(size int32) api.Errno {
	if size < 0 || size > api.MaxRadius {
		return api.ErrSize
	}
	return api.OK
}

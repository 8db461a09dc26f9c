package point

import "paddock/api"

// Bounds is the least box around some points (P4.7).
func Bounds(v ...api.Point) (api.Box, bool) {
	if len(v) == 0 {
		return api.Box{}, false
	}
	box := api.Box{Min: v[0], Max: v[0]}
	for _, p := range v[1:] {
		box.Min = lower(box.Min, p)
		box.Max = upper(box.Max, p)
	}
	return box, true
}

// lower is the greatest corner that is above neither point, in X or in Y.
func lower(a, b api.Point) api.Point {
	return api.Point{X: min(a.X, b.X), Y: min(a.Y, b.Y)}
}

// upper is the least corner that is below neither.
func upper(a, b api.Point) api.Point {
	return api.Point{X: max(a.X, b.X), Y: max(a.Y, b.Y)}
}

// Right tells whether a box is one (P4.7).
func Right(b api.Box) bool { return b.Min.X <= b.Max.X && b.Min.Y <= b.Max.Y }

// Has tells whether a box covers a point (P4.7).
func Has(b api.Box, p api.Point) bool {
	// A point between both corners: that there is one, only a right box can have.
	return Right(api.Box{Min: b.Min, Max: p}) && Right(api.Box{Min: p, Max: b.Max})
}

// Meet tells whether two boxes have a point in common (P4.7).
func Meet(a, b api.Box) bool {
	// What both cover is a box within each; where it is right, both are.
	return Right(api.Box{Min: upper(a.Min, b.Min), Max: lower(a.Max, b.Max)})
}

// Join is the least box around two (P4.7).
func Join(a, b api.Box) api.Box {
	switch {
	case Right(a) && Right(b):
		return api.Box{Min: lower(a.Min, b.Min), Max: upper(a.Max, b.Max)}
	case Right(a):
		return a
	case Right(b):
		return b
	}
	return api.Box{}
}

package shape

import (
	"slices"

	"paddock/api"
	"paddock/wire"
)

// The most points of a list, and the most holes, that two bytes and one can count.
const (
	mostPoints = 1<<16 - 1
	mostHoles  = 1<<8 - 1
)

// Bytes is a shape in bytes, right or not (P9.5).
func Bytes(s api.Shape) ([]byte, api.Errno) {
	if len(s.Holes) > mostHoles || long(s.Verts) || slices.ContainsFunc(s.Holes, long) {
		return nil, api.ErrLong
	}
	var out wire.Out
	wire.Put(&out, s.Kind)
	putPoints(&out, s.Verts)
	wire.Put(&out, uint8(len(s.Holes)))
	for _, h := range s.Holes {
		putPoints(&out, h)
	}
	wire.Put(&out, s.Size)
	return out.Bytes(), api.OK
}

func long(v []api.Point) bool { return len(v) > mostPoints }

func putPoints(out *wire.Out, v []api.Point) {
	wire.Put(out, uint16(len(v)))
	for _, p := range v {
		wire.Put(out, p.X)
		wire.Put(out, p.Y)
	}
}

// Open is the shape whose bytes these are (P9.5).
func Open(b []byte) (api.Shape, api.Errno) {
	in := wire.Read(b)
	s := api.Shape{Kind: wire.Take[api.ShapeKind](in), Verts: takePoints(in)}
	for range wire.Take[uint8](in) {
		s.Holes = append(s.Holes, takePoints(in))
	}
	s.Size = wire.Take[int32](in)
	if in.End() != api.OK {
		return api.Shape{}, api.ErrBytes
	}
	return s, api.OK
}

// takePoints takes a list of points. The list grows as its points are there, since a count alone is no reason to make room for so many.
func takePoints(in *wire.In) []api.Point {
	var v []api.Point
	for range in.Count(mostPoints) {
		p := api.Point{X: wire.Take[int32](in), Y: wire.Take[int32](in)}
		if _, fault := in.Fault(); fault != api.OK {
			return nil
		}
		v = append(v, p)
	}
	return v
}

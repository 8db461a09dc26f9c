package finder

import (
	"iter"
	"maps"
	"slices"

	"paddock/api"
)

// scan finds boxes by looking at all of them.
type scan struct {
	boxes map[uint32]api.Box
}

func newScan() *scan { return &scan{map[uint32]api.Box{}} }

// Put puts a box in under a number (P14.2).
func (s *scan) Put(id uint32, b api.Box) api.Errno {
	_, there := s.boxes[id]
	switch {
	case !isRight(b):
		return api.ErrBox
	case there:
		return api.ErrThere
	case len(s.boxes) >= api.MaxBoxes:
		return api.ErrFull
	}
	s.boxes[id] = b
	return api.OK
}

// Del takes it out (P14.2).
func (s *scan) Del(id uint32) api.Errno {
	if _, there := s.boxes[id]; !there {
		return api.ErrGone
	}
	delete(s.boxes, id)
	return api.OK
}

// At tells the numbers whose boxes cover a point (P14.3).
func (s *scan) At(p api.Point) iter.Seq[uint32] { return s.Crossing(p, p) }

// Crossing tells the numbers whose boxes meet a segment (P14.3).
func (s *scan) Crossing(p, q api.Point) iter.Seq[uint32] {
	return s.among(maps.Keys(s.boxes), p, q)
}

// Len is how many boxes there are (P14.2).
func (s *scan) Len() int { return len(s.boxes) }

// among tells which of some numbers have boxes that meet a segment, rising. They are gathered at once, so that what is done to the boxes later does not show.
func (s *scan) among(ids iter.Seq[uint32], p, q api.Point) iter.Seq[uint32] {
	var found []uint32
	if onLattice(p) && onLattice(q) {
		for id := range ids {
			if meets(s.boxes[id], p, q) {
				found = append(found, id)
			}
		}
	}
	slices.Sort(found)
	return slices.Values(found)
}

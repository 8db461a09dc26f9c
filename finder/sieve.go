package finder

import (
	"iter"

	"paddock/api"
)

// rough is what layers 12 and 13 have in common: a Finder's methods, but not its words. They miss no box that is meant, and tell others beside; the one takes more boxes than MaxBoxes, the other boxes off the lattice.
type rough interface{ Finder }

// sieve lets through what is meant of all that a rough index tells. How many boxes there are, the index tells as it is.
type sieve struct {
	rough
	all *scan // the boxes of the index: it refuses what either index would, and more
}

func newSieve(index rough) *sieve { return &sieve{index, newScan()} }

// Put puts a box in under a number (P14.2).
func (s *sieve) Put(id uint32, b api.Box) api.Errno {
	if err := s.all.Put(id, b); err != api.OK {
		return err
	}
	return s.rough.Put(id, b)
}

// Del takes it out (P14.2).
func (s *sieve) Del(id uint32) api.Errno {
	if err := s.all.Del(id); err != api.OK {
		return err
	}
	return s.rough.Del(id)
}

// At tells the numbers whose boxes cover a point (P14.3).
func (s *sieve) At(p api.Point) iter.Seq[uint32] {
	return s.all.among(s.rough.At(p), p, p)
}

// Crossing tells the numbers whose boxes meet a segment (P14.3).
func (s *sieve) Crossing(p, q api.Point) iter.Seq[uint32] {
	return s.all.among(s.rough.Crossing(p, q), p, q)
}

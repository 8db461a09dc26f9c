package match

import (
	"iter"
	"slices"

	"paddock/api"
	"paddock/shape"
	"paddock/table"
)

// fence is one of the table, with the set of its points, and the place by which it stands in sets of fences.
type fence struct {
	api.Fence
	shape.Area
	place int
}

// none is a set without a fence.
func (w *World) none() *table.Bits {
	set, _ := table.NewBits(w.fences.Room())
	return set
}

// set is the set of the fences with these numbers.
func (w *World) set(ids iter.Seq[uint32]) *table.Bits {
	set := w.none()
	for id := range ids {
		if f, there := w.fences.Get(id); there {
			set.Add(f.place)
		}
	}
	return set
}

// less is the set of what is in a set and in none of the others.
func (w *World) less(set *table.Bits, others ...*table.Bits) *table.Bits {
	rest := w.none()
	rest.Join(set)
	for _, other := range others {
		rest.Cut(other)
	}
	return rest
}

// walk hands the fences of a set to a function, by number.
func (w *World) walk(set *table.Bits, do func(f *fence)) {
	for _, f := range w.fences.All() {
		if set.Has(f.place) {
			do(f)
		}
	}
}

// sieve is the set of those fences of a set that are meant.
func (w *World) sieve(set *table.Bits, meant func(f *fence) bool) *table.Bits {
	sieved := w.none()
	w.walk(set, func(f *fence) {
		if meant(f) {
			sieved.Add(f.place)
		}
	})
	return sieved
}

// covering is the set of the fences that cover a place.
func (w *World) covering(q api.Point) *table.Bits {
	return w.sieve(w.set(w.index.At(q)), func(f *fence) bool { return f.Covers(q) })
}

// each lets the same happen to an object and each fence of a set, and tells it behind other events.
func (w *World) each(events []api.Event, kind api.EventKind, o api.Object, set *table.Bits, clock uint32) []api.Event {
	w.walk(set, func(f *fence) { events = append(events, w.happen(kind, o, f, clock)) })
	return events
}

// cloned is a shape with lists of its own.
func cloned(s api.Shape) api.Shape {
	s.Verts, s.Holes = slices.Clone(s.Verts), slices.Clone(s.Holes)
	for i, hole := range s.Holes {
		s.Holes[i] = slices.Clone(hole)
	}
	return s
}

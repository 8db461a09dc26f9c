package match

import (
	"math"
	"slices"

	"paddock/api"
	"paddock/point"
	"paddock/table"
)

// From is one as it stood (P19.2).
func From(c api.Config, objects []api.Object, fences []api.Fence, dues []api.Due) (*World, api.Errno) {
	w, e := New(c)
	if e != api.OK {
		return nil, e
	}
	// Each of them leans on those ahead of it: objects are in fences, and dues are of both.
	if !w.putFences(fences) || !w.layObjects(objects) || !w.setDues(dues) {
		return nil, api.ErrNews
	}
	return w, api.OK
}

// rises is whether the number of each is above that of the one ahead of it.
func rises[T any](list []T, number func(x T) uint32) bool {
	for i := 1; i < len(list); i++ {
		if number(list[i]) <= number(list[i-1]) {
			return false
		}
	}
	return true
}

// putFences puts fences into a world without objects, if they can stand so.
func (w *World) putFences(list []api.Fence) bool {
	for _, f := range list {
		if _, e := w.Fence(f, 0); e != api.OK {
			return false
		}
	}
	return rises(list, func(f api.Fence) uint32 { return f.Id })
}

// layObjects puts objects in as they stood, if they can stand so among the fences.
func (w *World) layObjects(list []api.Object) bool {
	for _, o := range list {
		if !w.right(o) || w.book.Lay(o) != api.OK {
			return false
		}
	}
	return rises(list, func(o api.Object) uint32 { return o.Id })
}

// right is whether an object, by itself, can stand as it is told.
func (w *World) right(o api.Object) bool {
	// A NaN is neither from 0 on nor below anything.
	return point.In(o.Place) && o.Speed >= 0 && o.Speed <= math.MaxFloat64 && slices.Equal(o.In, w.ids(w.covering(o.Place)))
}

// ids are the numbers of the fences of a set, rising.
func (w *World) ids(set *table.Bits) []uint32 {
	var list []uint32
	w.walk(set, func(f *fence) { list = append(list, f.Id) })
	return list
}

// setDues sets what will be due, if it can be of the objects and the fences there are.
func (w *World) setDues(list []api.Due) bool {
	for _, x := range list {
		f, _ := w.fences.Get(x.Fence)
		if !w.book.In(x.Object, x.Fence) || f.Dwell == 0 || w.dues.Set(x) != api.OK {
			return false
		}
	}
	// Whether they were told in their order, the timer knows, which has that order.
	return slices.Equal(w.Dues(), list)
}

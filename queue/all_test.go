package queue

import (
	"fmt"
	"slices"
	"testing"
)

// P15.7: the values of rings turned to each place, filled to each height, each time that they are gone over.
func TestAll(t *testing.T) {
	const most = 4
	for by := range most {
		for count := range most + 1 {
			what := fmt.Sprintf("turned by %d, %d values", by, count)
			r := turned(t, most, by, numbers(count)...)
			all := r.All()
			for range 3 {
				wantTold(t, what, all, numbers(count)...)
			}
			wantRow(t, what, r, numbers(count)...)
		}
	}
}

// P15.7: an iterator may be left at each place, and begins anew when it is gone over again.
func TestAllLeftEarly(t *testing.T) {
	r := turned(t, 5, 3, numbers(5)...)
	all := r.All()
	for stop := range 5 {
		var list []int
		for i, v := range all {
			list = append(list, v)
			if i == stop {
				break
			}
		}
		if !slices.Equal(list, numbers(stop+1)) {
			t.Errorf("left at %d: %v", stop, list)
		}
		asked := 0
		all(func(int, int) bool {
			asked++
			return asked <= stop
		})
		wantCount(t, "asked again when no more was wanted", asked, stop+1)
	}
	wantTold(t, "gone over again", all, numbers(5)...)
	wantRow(t, "the ring", r, numbers(5)...)
}

// changes are what can be done to a ring, one by one.
func changes() map[string]func(*Ring[int]) {
	return map[string]func(*Ring[int]){
		"Push":     func(r *Ring[int]) { r.Push(50) },
		"Pop":      func(r *Ring[int]) { r.Pop() },
		"Set":      func(r *Ring[int]) { r.Set(0, 51); r.Set(1, 52); r.Set(2, 53) },
		"Cut":      func(r *Ring[int]) { r.Cut(1) },
		"Cut last": func(r *Ring[int]) { r.Cut(r.Len() - 1) },
		"Drop":     func(r *Ring[int]) { r.Drop(2) },
		"Drop all": func(r *Ring[int]) { r.Drop(9) },
		"Mark":     func(r *Ring[int]) { r.Mark(0, 1) },
		"filled anew": func(r *Ring[int]) {
			r.Drop(9)
			for v := range 9 {
				r.Push(60 + v)
			}
		},
	}
}

// P15.7: what is done to a ring behind All changes nothing of what it tells, whether or not it was gone over ahead of that.
func TestAllChangedLater(t *testing.T) {
	for what, change := range changes() {
		for by := range 4 {
			r := turned(t, 4, by, 1, 2, 3)
			old, fresh := r.All(), r.All()
			wantTold(t, what+": ahead of it", old, 1, 2, 3)
			change(r)
			wantTold(t, what+": behind it", old, 1, 2, 3)
			wantTold(t, what+": behind it, for the first time", fresh, 1, 2, 3)
			now := told(t, what, r.All())
			change(r)
			wantTold(t, what+": twice", old, 1, 2, 3)
			if what != "Mark" && what != "filled anew" && slices.Equal(now, []int{1, 2, 3}) {
				t.Errorf("%s: has changed nothing", what)
			}
		}
	}
}

// P15.7: going on while the ring is changed, at each place.
func TestAllChangedMeanwhile(t *testing.T) {
	for what, change := range changes() {
		for by := range 4 {
			for when := range 3 {
				r := turned(t, 4, by, 1, 2, 3)
				var list, inner []int
				for i, v := range r.All() {
					list = append(list, v)
					if i == when {
						change(r)
						inner = told(t, what, r.All())
					}
				}
				if !slices.Equal(list, numbers(3)) {
					t.Errorf("%s at %d: %v", what, when, list)
				}
				wantRow(t, what, r, inner...)
			}
		}
	}
}

// P15.7: a ring that is emptied by what goes over it, and one that gets more by that.
func TestAllWhileItEmptiesAndFills(t *testing.T) {
	r := turned(t, 8, 6, 1, 2, 3)
	for i, v := range r.All() {
		got, ok := r.Pop()
		wantValue(t, fmt.Sprint("Pop at ", i), got, ok, v, true)
	}
	wantRow(t, "emptied", r)
	push(t, r, 1, 2, 3)
	for _, v := range r.All() {
		push(t, r, 10+v)
	}
	wantRow(t, "filled", r, 1, 2, 3, 11, 12, 13)
}

// P15.7: an iterator of none, asked for ahead of the first value, goes on telling none.
func TestAllOfNone(t *testing.T) {
	r := made[int](t, 2)
	all := r.All()
	push(t, r, 1, 2)
	wantTold(t, "asked for when there was none", all)
	r.Drop(2)
	wantTold(t, "behind all taken off", r.All())
}

// P15.7: iterators of one ring beside one another, one within the other.
func TestAllWithinAll(t *testing.T) {
	r := turned(t, 3, 2, 1, 2, 3)
	all := r.All()
	var list []int
	for _, v := range all {
		for _, w := range all {
			list = append(list, 10*v+w)
		}
	}
	if want := []int{11, 12, 13, 21, 22, 23, 31, 32, 33}; !slices.Equal(list, want) {
		t.Errorf("%v, want %v", list, want)
	}
}

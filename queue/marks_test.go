package queue

import (
	"fmt"
	"testing"

	"paddock/api"
)

// P15.5: without marks nothing is pressed, however many there are; marks that were refused are none.
func TestNoMarks(t *testing.T) {
	for _, most := range []int{1, 2, 5} {
		for _, refuse := range []bool{false, true} {
			r := made[int](t, most)
			for i := range 2*most + 1 {
				if refuse {
					wantErr(t, "Mark", r.Mark(0, most+1), api.ErrArg)
				}
				wantPressed(t, fmt.Sprint(i, " of ", most), r, false)
				r.Push(1)
			}
			for i := range most + 1 {
				wantPressed(t, fmt.Sprint(i, " taken off"), r, false)
				r.Pop()
			}
		}
	}
}

// P15.5: which marks there may be, each with each; what is refused leaves the old ones, and what they said.
func TestWrongMarks(t *testing.T) {
	numbers := []int{least, least + 1, -65536, -1, 0, 1, 2, 3, 4, 5, 6, 65536, 1 << 32, 1<<32 + 2, greatest}
	for _, most := range []int{1, 2, 4} {
		for _, low := range numbers {
			for _, high := range numbers {
				what := fmt.Sprintf("%d places, Mark(%d, %d)", most, low, high)
				r := made[int](t, most)
				want := api.OK
				if low < 0 || low >= high || high > most {
					want = api.ErrArg
				}
				wantErr(t, what, r.Mark(low, high), want)
				wantPressed(t, what, r, false)
				for count := range most {
					r.Push(1)
					wantPressed(t, what, r, want == api.OK && count+1 >= high)
				}
				wantCount(t, what+": Len", r.Len(), most)
			}
		}
	}
}

// P15.5: refused marks change nothing: whether it is pressed, and where it is so no more, is as it was.
func TestRefusedMarks(t *testing.T) {
	wrong := [][2]int{{-1, 1}, {-1, -1}, {least, greatest}, {0, 0}, {1, 1}, {2, 1}, {4, 4}, {4, 3}, {0, 5}, {3, 5}, {1, greatest}, {greatest, least}}
	for _, m := range wrong {
		r := made[int](t, 4)
		wantErr(t, "Mark(1, 3)", r.Mark(1, 3), api.OK)
		refused := func(what string, want bool) {
			t.Helper()
			wantErr(t, fmt.Sprint(what, m), r.Mark(m[0], m[1]), api.ErrArg)
			wantPressed(t, fmt.Sprint(what, m), r, want)
		}
		refused("none", false)
		push(t, r, 1, 2)
		refused("two, from below", false)
		push(t, r, 3)
		refused("three", true)
		r.Pop()
		refused("two, from above", true)
		r.Pop()
		refused("one", false)
		push(t, r, 1, 2, 3)
		refused("four", true)
		r.Drop(4)
		refused("none again", false)
	}
}

// P15.5: new marks say from how many there are alone whether it is pressed, whatever the old ones said.
func TestMarkAnew(t *testing.T) {
	const most = 4
	for count := range most + 1 {
		for low := range most {
			for high := low + 1; high <= most; high++ {
				for _, before := range []bool{false, true} {
					what := fmt.Sprintf("%d values, pressed %v, Mark(%d, %d)", count, before, low, high)
					r := made[int](t, most)
					if before && !pressedAt(t, r, count) || !before && !easedAt(t, r, count) {
						continue
					}
					wantPressed(t, what+": before", r, before)
					wantErr(t, what, r.Mark(low, high), api.OK)
					wantPressed(t, what, r, count >= high)
					wantCount(t, what+": Len", r.Len(), count)
					r.Drop(max(0, r.Len()-low-1))
					wantPressed(t, what+": just above low", r, count >= high)
					r.Drop(max(0, r.Len()-low))
					wantPressed(t, what+": at low", r, false)
					for r.Len() < high-1 {
						push(t, r, 1)
					}
					wantPressed(t, what+": just below high", r, false)
					push(t, r, 1)
					wantPressed(t, what+": at high", r, true)
				}
			}
		}
	}
}

// pressedAt brings a ring to be pressed with so many values; false, if there is no way.
func pressedAt(t *testing.T, r *Ring[int], count int) bool {
	t.Helper()
	wantErr(t, "Mark", r.Mark(0, r.Most()), api.OK)
	push(t, r, numbers(r.Most())...)
	r.Drop(r.Most() - count)
	return count > 0
}

// easedAt brings a ring with marks to be not pressed with so many values; false, if there is no way.
func easedAt(t *testing.T, r *Ring[int], count int) bool {
	t.Helper()
	wantErr(t, "Mark", r.Mark(0, r.Most()), api.OK)
	push(t, r, numbers(count)...)
	return count < r.Most()
}

// ways are the calls that take off, one at a time.
func ways() map[string]func(*Ring[int]) {
	return map[string]func(*Ring[int]){
		"Pop":              func(r *Ring[int]) { r.Pop() },
		"Cut of the first": func(r *Ring[int]) { r.Cut(0) },
		"Cut of the last":  func(r *Ring[int]) { r.Cut(r.Len() - 1) },
		"Cut amid":         func(r *Ring[int]) { r.Cut(r.Len() / 2) },
		"Drop":             func(r *Ring[int]) { r.Drop(1) },
	}
}

// idle are calls that do not change how many there are.
func idle(t *testing.T, r *Ring[int]) {
	t.Helper()
	r.Set(0, 9)
	r.Set(-1, 9)
	r.At(0)
	r.Cut(-1)
	r.Cut(r.Len())
	r.Drop(0)
	r.Drop(-1)
	if r.Len() == 0 {
		r.Pop()
		r.Drop(1)
	}
	if r.Free() == 0 {
		wantErr(t, "one more", r.Push(1), api.ErrFull)
	}
	told(t, "All", r.All())
}

// P15.5: up through both marks and down through both, by each call, with each two marks; what does not change how many there are changes nothing of it.
func TestThroughMarks(t *testing.T) {
	const most = 5
	for way, off := range ways() {
		for low := range most {
			for high := low + 1; high <= most; high++ {
				what := fmt.Sprintf("%s, marks %d and %d", way, low, high)
				r := turned[int](t, most, 3)
				wantErr(t, what, r.Mark(low, high), api.OK)
				for range 2 {
					for count := range most {
						push(t, r, 1)
						idle(t, r)
						wantPressed(t, fmt.Sprint(what, ", up to ", count+1), r, count+1 >= high)
					}
					for count := most - 1; count >= 0; count-- {
						off(r)
						idle(t, r)
						wantPressed(t, fmt.Sprint(what, ", down to ", count), r, count > low)
					}
				}
			}
		}
	}
}

// P15.5: between the marks it is what it was, also where it turns round there.
func TestBetweenMarks(t *testing.T) {
	for way, off := range ways() {
		r := made[int](t, 6)
		wantErr(t, "Mark", r.Mark(1, 5), api.OK)
		push(t, r, 1, 2, 3, 4)
		for range 3 {
			off(r)
			off(r)
			wantPressed(t, way+": two, from below", r, false)
			push(t, r, 5, 6)
			wantPressed(t, way+": four, from below", r, false)
		}
		push(t, r, 7)
		wantPressed(t, way+": five", r, true)
		for range 3 {
			off(r)
			off(r)
			off(r)
			wantPressed(t, way+": two, from above", r, true)
			push(t, r, 7, 8)
			wantPressed(t, way+": four, from above", r, true)
			push(t, r, 9)
		}
	}
}

// P15.5: Drop of many at one time goes by how many are left.
func TestDropThroughMarks(t *testing.T) {
	const most = 5
	for low := range most {
		for high := low + 1; high <= most; high++ {
			for n := range most + 3 {
				r := made[int](t, most)
				wantErr(t, "Mark", r.Mark(low, high), api.OK)
				push(t, r, numbers(most)...)
				r.Drop(n)
				wantPressed(t, fmt.Sprintf("marks %d and %d, Drop(%d)", low, high, n), r, most-n > low)
			}
		}
	}
}

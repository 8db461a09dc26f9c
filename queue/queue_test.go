package queue

import (
	"fmt"
	"slices"
	"testing"

	"paddock/api"
)

// The chapter's table, row by row.
func TestExamples(t *testing.T) {
	r := made[string](t, 3)
	push(t, r, "a", "b", "c")
	wantErr(t, "Push d", r.Push("d"), api.ErrFull)
	wantCount(t, "Free", r.Free(), 0)
	wantCount(t, "Peak", r.Peak(), 3)
	wantCount(t, "Refused", r.Refused(), 1)

	v, ok := r.Cut(1)
	wantValue(t, "Cut(1)", v, ok, "b", true)
	v, ok = r.At(1)
	wantValue(t, "At(1)", v, ok, "c", true)
	v, ok = r.At(2)
	wantValue(t, "At(2)", v, ok, "", false)
	if r.Set(2, "x") {
		t.Error("Set(2): true")
	}

	push(t, r, "e")
	v, ok = r.Pop()
	wantValue(t, "Pop", v, ok, "a", true)
	wantCount(t, "Drop(9)", r.Drop(9), 2)
	wantCount(t, "Drop(1)", r.Drop(1), 0)
	v, ok = r.Pop()
	wantValue(t, "Pop of none", v, ok, "", false)

	wantErr(t, "Mark(1, 1)", r.Mark(1, 1), api.ErrArg)
	wantErr(t, "Mark(0, 4)", r.Mark(0, 4), api.ErrArg)
	wantErr(t, "Mark(1, 3)", r.Mark(1, 3), api.OK)

	push(t, r, "f", "g", "h")
	wantPressed(t, "three", r, true)
	r.Pop()
	wantPressed(t, "two", r, true)
	r.Pop()
	wantPressed(t, "one", r, false)

	for _, most := range []int{0, 65537} {
		if r, e := New[int](most); r != nil || e != api.ErrArg {
			t.Errorf("New(%d): %v, %d", most, r, e)
		}
	}
}

// P15.1: how many places there may be.
func TestNew(t *testing.T) {
	if api.MaxRing != 65536 {
		t.Fatalf("MaxRing: %d", api.MaxRing)
	}
	for _, most := range []int{least, -65536, -2, -1, 0, 65537, 65538, 1 << 31, 1<<32 + 1, greatest} {
		if r, e := New[int](most); r != nil || e != api.ErrArg {
			t.Errorf("New(%d): %v, %d, want ErrArg", most, r, e)
		}
		if r, e := New[struct{}](most); r != nil || e != api.ErrArg {
			t.Errorf("New(%d) of nothings: %v, %d, want ErrArg", most, r, e)
		}
	}
	for _, most := range []int{1, 2, 3, 64, 256, 65535, 65536} {
		(&plain[int]{most: most}).same(t, fmt.Sprint("new, of ", most), made[int](t, most))
		(&plain[struct{}]{most: most}).same(t, fmt.Sprint("new, of nothings, ", most), made[struct{}](t, most))
	}
}

// P0.1: a ring that is not there, and one that New did not make, answer nothing in every call, and take nothing.
func TestAbsent(t *testing.T) {
	refused, _ := New[string](0)
	for what, r := range map[string]*Ring[string]{"nil": nil, "refused": refused, "zero": {}, "new": new(Ring[string])} {
		for range 2 {
			wantErr(t, what+": Push", r.Push("x"), api.ErrNil)
			v, ok := r.Pop()
			wantValue(t, what+": Pop", v, ok, "", false)
			for _, i := range []int{least, -1, 0, 1, greatest} {
				v, ok = r.At(i)
				wantValue(t, what+": At", v, ok, "", false)
				v, ok = r.Cut(i)
				wantValue(t, what+": Cut", v, ok, "", false)
				if r.Set(i, "x") {
					t.Errorf("%s: Set(%d): true", what, i)
				}
				wantCount(t, what+": Drop", r.Drop(i), 0)
				for _, j := range []int{least, -1, 0, 1, 2, greatest} {
					wantErr(t, what+": Mark", r.Mark(i, j), api.ErrNil)
				}
			}
			wantCount(t, what+": Len", r.Len(), 0)
			wantCount(t, what+": Free", r.Free(), 0)
			wantCount(t, what+": Most", r.Most(), 0)
			wantPressed(t, what, r, false)
			wantCount(t, what+": Peak", r.Peak(), 0)
			wantCount(t, what+": Refused", r.Refused(), 0)
			wantTold(t, what+": All", r.All())
		}
	}
}

// P15.2, P15.4: as many go in as there are places, one more does not; as many come out, in their order, one more does not.
func TestPushPop(t *testing.T) {
	for _, most := range []int{1, 2, 3, 10} {
		for by := range most + 1 {
			what := fmt.Sprintf("%d places, turned by %d", most, by)
			r := turned[int](t, most, by)
			for i, v := range numbers(most) {
				wantErr(t, what+": Push", r.Push(v), api.OK)
				wantRow(t, what, r, numbers(i+1)...)
			}
			for i := range 3 {
				wantErr(t, what+": Push of one more", r.Push(99), api.ErrFull)
				wantCount(t, what+": Refused", r.Refused(), i+1)
				wantRow(t, what+", full", r, numbers(most)...)
			}
			for i, want := range numbers(most) {
				v, ok := r.Pop()
				wantValue(t, what+": Pop", v, ok, want, true)
				wantRow(t, what, r, numbers(most)[i+1:]...)
			}
			for range 2 {
				v, ok := r.Pop()
				wantValue(t, what+": Pop of none", v, ok, 0, false)
				wantRow(t, what+", empty", r)
			}
			push(t, r, 7)
			wantRow(t, what+", one again", r, 7)
		}
	}
}

// P15.1, P15.2, P15.4: as many places as there may be.
func TestMaxRing(t *testing.T) {
	r := made[int](t, 65536)
	for range 40000 {
		r.Push(1)
	}
	wantCount(t, "Drop", r.Drop(40000), 40000)
	push(t, r, numbers(65536)...)
	wantErr(t, "one more", r.Push(0), api.ErrFull)
	wantRow(t, "full", r, numbers(65536)...)
	v, ok := r.Cut(65535)
	wantValue(t, "the last", v, ok, 65536, true)
	v, ok = r.Cut(30000)
	wantValue(t, "of the midst", v, ok, 30001, true)
	v, ok = r.Pop()
	wantValue(t, "the first", v, ok, 1, true)
	wantRow(t, "without three", r, slices.Concat(numbers(30000)[1:], numbers(65535)[30001:])...)
	wantErr(t, "marks at the ends", r.Mark(0, 65536), api.OK)
	wantErr(t, "a mark above", r.Mark(0, 65537), api.ErrArg)
	push(t, r, 1, 2)
	wantPressed(t, "one less than all", r, false)
	push(t, r, 3)
	wantPressed(t, "all", r, true)
	wantCount(t, "Drop of all", r.Drop(greatest), 65536)
	wantPressed(t, "none", r, false)
	wantRow(t, "empty", r)
	wantCount(t, "Peak", r.Peak(), 65536)
}

// places are those at which a ring with so many values is asked, and whether there is a value.
func places(count int) map[int]bool {
	list := map[int]bool{least: false, least + 1: false, -65536: false, -2: false, -1: false, count: false, count + 1: false, 65536: false, 1 << 32: false, greatest: false}
	for i := range count {
		list[i] = true
	}
	return list
}

// P15.3: at each place of a ring, turned to each place, filled to each height: At tells, Set changes, Cut takes out; behind its ends nothing changes.
func TestEveryPlace(t *testing.T) {
	for _, most := range []int{1, 2, 3, 5} {
		for by := range most {
			for count := range most + 1 {
				for i, there := range places(count) {
					what := fmt.Sprintf("%d places, turned by %d, %d values, place %d", most, by, count, i)
					p := &plain[int]{most: most, list: numbers(count), peak: max(min(by, 1), count)}
					r := turned(t, most, by, p.list...)
					p.same(t, what, r)
					both(t, what, r, p, call{kind: callSet, i: i}, 77)
					p.same(t, what+", behind Set", r)
					want := answer[int]{ok: there}
					if there {
						want.v = 77
					}
					if a := both(t, what, r, p, call{kind: callCut, i: i}, 0); a != want {
						t.Errorf("%s: Cut of what was set: %v, want %v", what, a, want)
					}
					p.same(t, what+", behind Cut", r)
					both(t, what, r, p, call{kind: callPush}, 88)
					both(t, what, r, p, call{kind: callPop}, 0)
					p.same(t, what+", behind Push and Pop", r)
				}
			}
		}
	}
}

// P15.3: how many Drop takes off, of rings turned to each place, filled to each height.
func TestDrop(t *testing.T) {
	for _, most := range []int{1, 2, 5} {
		for by := range most {
			for count := range most + 1 {
				for _, n := range []int{least, -65536, -1, 0, 1, 2, count - 1, count, count + 1, most, most + 1, 65536, 1 << 32, greatest} {
					what := fmt.Sprintf("%d places, turned by %d, %d values, Drop(%d)", most, by, count, n)
					r := turned(t, most, by, numbers(count)...)
					want := max(0, min(n, count))
					wantCount(t, what, r.Drop(n), want)
					wantRow(t, what, r, numbers(count)[want:]...)
					push(t, r, numbers(most-count+want)...)
					wantRow(t, what+", filled again", r, slices.Concat(numbers(count)[want:], numbers(most-count+want))...)
				}
			}
		}
	}
}

// P15.6: Peak and Refused, behind each kind of call.
func TestPeakRefused(t *testing.T) {
	r := made[int](t, 4)
	want := func(what string, peak, refused int) {
		t.Helper()
		wantCount(t, what+": Peak", r.Peak(), peak)
		wantCount(t, what+": Refused", r.Refused(), refused)
	}
	want("new", 0, 0)
	r.Pop()
	r.Cut(0)
	r.Drop(1)
	r.Set(0, 1)
	want("nothing taken off", 0, 0)
	push(t, r, 1)
	want("one", 1, 0)
	r.Pop()
	push(t, r, 2)
	want("one at a time", 1, 0)
	push(t, r, 3, 4)
	want("three", 3, 0)
	r.Set(0, 5)
	r.Set(9, 5)
	r.At(2)
	r.At(3)
	r.Mark(0, 2)
	r.Mark(2, 1)
	want("asked and marked", 3, 0)
	r.Cut(1)
	want("cut", 3, 0)
	r.Drop(1)
	want("dropped", 3, 0)
	push(t, r, 6, 7)
	want("three again", 3, 0)
	push(t, r, 8)
	want("four", 4, 0)
	r.Push(9)
	r.Push(9)
	want("two refused", 4, 2)
	told(t, "All", r.All())
	r.Mark(0, 4)
	want("told and marked", 4, 2)
	r.Drop(9)
	r.Pop()
	want("empty", 4, 2)
	push(t, r, 1, 2, 3, 4)
	r.Push(5)
	want("full again", 4, 3)
}

// P15.8: Peak is Most just if the ring was full at some time.
func TestPeakIsMost(t *testing.T) {
	for _, most := range []int{1, 2, 3, 7} {
		for height := range most + 1 {
			r := made[int](t, most)
			push(t, r, numbers(height)...)
			full := r.Free() == 0
			r.Drop(greatest)
			for range 3 * most {
				if most > 1 {
					r.Push(1)
					r.Pop()
				}
			}
			if (r.Peak() == most) != full || r.Peak() != max(height, min(most-1, 1)) {
				t.Errorf("%d of %d: Peak: %d", height, most, r.Peak())
			}
		}
	}
}

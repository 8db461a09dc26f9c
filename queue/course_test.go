package queue

import (
	"fmt"
	"math/rand"
	"slices"
	"testing"

	"paddock/api"
)

// fewCalls are calls of each kind, right and wrong ones, for a ring of so many places.
func fewCalls(most int) []call {
	list := []call{{kind: callPush}, {kind: callPop}, {callSet, 0, 0}, {callSet, 1, 0}, {callCut, 1, 0}, {callCut, most - 1, 0}, {callDrop, 1, 0}, {callDrop, 2, 0}}
	return append(list, call{callMark, 0, most}, call{callMark, most - 1, most}, call{callMark, 1, 1}, call{callCut, -1, 0})
}

// P15.2 to P15.6, P15.8: every course of a few calls, of rings of one to three places, against the plain list behind each of them.
func TestEveryCourse(t *testing.T) {
	for most := 1; most <= 3; most++ {
		few := fewCalls(most)
		for length := range 5 {
			courses := 1
			for range length {
				courses *= len(few)
			}
			for course := range courses {
				r, p := turned[int](t, most, course%most), &plain[int]{most: most, peak: min(course%most, 1)}
				for n, left := 0, course; n < length; n, left = n+1, left/len(few) {
					both(t, "on the way", r, p, few[left%len(few)], n+1)
				}
				p.same(t, fmt.Sprintf("%d places, %d calls, course %d", most, length, course), r)
				if t.Failed() {
					return
				}
			}
		}
	}
}

// P15.2 to P15.6, P15.8: every course of eight puttings in and takings off, in which the first place goes round more than once.
func TestEveryCourseRound(t *testing.T) {
	few := []call{{kind: callPush}, {kind: callPop}, {callCut, 1, 0}, {callDrop, 2, 0}}
	for _, most := range []int{2, 3} {
		for course := range 1 << 16 {
			r, p := made[int](t, most), &plain[int]{most: most}
			both(t, "marked", r, p, call{callMark, 0, 2}, 0)
			for n, left := 0, course; n < 8; n, left = n+1, left/4 {
				both(t, "on the way", r, p, few[left%4], n+1)
			}
			p.same(t, fmt.Sprintf("%d places, course %d", most, course), r)
			if t.Failed() {
				return
			}
		}
	}
}

// anyNumber is a number near to a ring's places, or any at all.
func anyNumber(r *rand.Rand, most int) int {
	if r.Intn(6) == 0 {
		return int(r.Uint64()) >> r.Intn(64)
	}
	return r.Intn(most+3) - 1
}

// anyCall is a call of any kind, with any numbers; as often as not it puts something in.
func anyCall(r *rand.Rand, most int) call {
	kind := r.Intn(calls)
	if r.Intn(2) == 0 {
		kind = callPush
	}
	return call{kind, anyNumber(r, most), anyNumber(r, most)}
}

// anyCourse is many calls to a ring of values of a type, against the plain list.
func anyCourse[T comparable](t *testing.T, seed int64, value func(int) T) {
	t.Helper()
	random := rand.New(rand.NewSource(seed))
	answers := map[api.Errno]int{}
	full := 0
	for _, most := range []int{1, 2, 3, 8, 64} {
		r, p := made[T](t, most), &plain[T]{most: most}
		for n := range 2000 {
			c := anyCall(random, most)
			a := both(t, fmt.Sprintf("%d places, call %d", most, n), r, p, c, value(n+1))
			p.same(t, fmt.Sprintf("%d places, call %d: %v", most, n, c), r)
			if t.Failed() {
				return
			}
			answers[a.err]++
			full = max(full, a.n)
		}
	}
	for _, e := range []api.Errno{api.OK, api.ErrArg, api.ErrFull} {
		if answers[e] < 100 {
			t.Errorf("answered %d: %d times", e, answers[e])
		}
	}
	if full < 4 {
		t.Errorf("the most dropped at one time: %d", full)
	}
}

// thing is a struct of several fields.
type thing struct {
	name  string
	place api.Point
	tags  [2]uint8
}

// P15.2 to P15.6: any course of calls, with values of several types.
func TestAnyCourse(t *testing.T) {
	anyCourse(t, 1, func(n int) int { return -n })
	anyCourse(t, 2, func(n int) uint8 { return uint8(n) })
	anyCourse(t, 3, func(n int) float64 { return float64(n) / 7 })
	anyCourse(t, 4, func(n int) bool { return n%3 > 0 })
	anyCourse(t, 5, func(n int) string { return fmt.Sprint("mare ", n) })
	anyCourse(t, 6, func(n int) thing {
		return thing{fmt.Sprint(n), api.Point{X: int32(n), Y: -1}, [2]uint8{1, uint8(n)}}
	})
	anyCourse(t, 7, func(n int) *thing { return &thing{name: fmt.Sprint(n)} })
	anyCourse(t, 8, func(n int) any { return []any{n, fmt.Sprint(n), nil, thing{}}[n%4] })
	anyCourse(t, 9, func(int) struct{} { return struct{}{} })
	anyCourse(t, 10, func(n int) api.Event { return api.Event{Kind: api.Enter, Number: uint32(n), Speed: 0.5} })
}

// P15.2, P15.3: the pointer that went in is the one that comes out, and what it leads to is left alone.
func TestPointers(t *testing.T) {
	a, b := &thing{name: "a"}, &thing{name: "b"}
	r := turned(t, 2, 1, a, b)
	a.name = "c"
	v, ok := r.At(0)
	wantValue(t, "At", v, ok, a, true)
	v, ok = r.Pop()
	wantValue(t, "Pop", v, ok, a, true)
	if v.name != "c" || b.name != "b" {
		t.Errorf("what they lead to: %v, %v", v, b)
	}
	wantRow(t, "one left", r, b)
	push(t, r, nil)
	v, ok = r.At(1)
	wantValue(t, "a nil one", v, ok, nil, true)
	wantCount(t, "Len with a nil one", r.Len(), 2)
}

// P15.2, P15.3, P15.7: a struct that comes out is a copy: changing it changes nothing of the ring.
func TestStructsAreCopies(t *testing.T) {
	in := thing{name: "a", tags: [2]uint8{1, 2}}
	r := turned(t, 2, 1, in, in)
	in.tags[0] = 9
	want := thing{name: "a", tags: [2]uint8{1, 2}}
	v, _ := r.At(0)
	v.tags[0] = 8
	for _, v := range r.All() {
		v.tags[1] = 7
	}
	wantRow(t, "behind changes of copies", r, want, want)
}

// P15.2, P15.3: values that can't be compared, lists, maps and functions among them.
func TestNotCompared(t *testing.T) {
	lists := made[[]int](t, 2)
	push(t, lists, []int{1, 2}, nil)
	wantErr(t, "one more list", lists.Push([]int{3}), api.ErrFull)
	if v, ok := lists.Cut(1); v != nil || !ok {
		t.Errorf("a nil list: %v, %v", v, ok)
	}
	if v, ok := lists.Pop(); !ok || !slices.Equal(v, []int{1, 2}) {
		t.Errorf("a list: %v, %v", v, ok)
	}
	if v, ok := lists.Pop(); v != nil || ok {
		t.Errorf("no list: %v, %v", v, ok)
	}
	if lists.places[0] != nil || lists.places[1] != nil {
		t.Error("a list was kept")
	}
	doings := made[func() int](t, 1)
	push(t, doings, func() int { return 7 })
	if v, ok := doings.Pop(); !ok || v() != 7 || doings.places[0] != nil {
		t.Error("a function")
	}
	tables := made[map[string]int](t, 1)
	push(t, tables, map[string]int{"a": 1})
	if v, ok := tables.At(0); !ok || v["a"] != 1 || tables.Drop(1) != 1 || tables.places[0] != nil {
		t.Errorf("a map: %v, %v", v, ok)
	}
}

// P15.8: two rings have nothing in common, whatever is done to one of them.
func TestApart(t *testing.T) {
	random := rand.New(rand.NewSource(15))
	for range 20 {
		most := 1 + random.Intn(5)
		a, b := made[int](t, most), made[int](t, most)
		p, q := &plain[int]{most: most}, &plain[int]{most: most}
		for n := range 200 {
			if random.Intn(2) == 0 {
				both(t, "the one", a, p, anyCall(random, most), n+1)
			} else {
				both(t, "the other", b, q, anyCall(random, most), -n-1)
			}
			p.same(t, "the one", a)
			q.same(t, "the other", b)
			if t.Failed() {
				return
			}
		}
	}
}

// P15.8: what Pop answers is what Push took, in that order, whatever is asked in between; never are there more than Most.
func TestInOrder(t *testing.T) {
	random := rand.New(rand.NewSource(51))
	for _, most := range []int{1, 2, 3, 17, 1000} {
		r := made[int](t, most)
		var in, out []int
		refused, full := 0, false
		for n := range 20 * most {
			for range random.Intn(most + 2) {
				if r.Push(n) == api.OK {
					in = append(in, n)
				} else {
					refused++
				}
				full = full || r.Free() == 0
				if r.Len() > most || r.Len() != len(in)-len(out) {
					t.Fatalf("%d places: Len: %d", most, r.Len())
				}
			}
			r.At(random.Intn(most))
			r.Mark(0, most)
			r.All()
			for range random.Intn(most + 2) {
				if v, ok := r.Pop(); ok {
					out = append(out, v)
				}
			}
		}
		for v, ok := r.Pop(); ok; v, ok = r.Pop() {
			out = append(out, v)
		}
		if !slices.Equal(in, out) {
			t.Errorf("%d places: what came out is not what went in", most)
		}
		if (r.Peak() == most) != full {
			t.Errorf("%d places: Peak: %d, full: %v", most, r.Peak(), full)
		}
		wantCount(t, "Refused", r.Refused(), refused)
	}
}

package timer

import (
	"cmp"
	"fmt"
	"math/rand"
	"slices"
	"strings"
	"testing"
)

// heaped is a heap of a type, and what it told of where its values stand.
func heaped[T comparable](order func(a, b T) int) (*heap[T], map[T]int) {
	places := map[T]int{}
	return &heap[T]{order: order, moved: func(v T, i int) { places[v] = i }}, places
}

// wantHeap fails, unless a heap is whole, holds so many values, and has told of each at which place it stands.
func wantHeap[T comparable](t *testing.T, what string, h *heap[T], places map[T]int, count int) {
	t.Helper()
	wantWhole(t, what, h)
	wantCount(t, what, len(h.list), count)
	for i, v := range h.list {
		if places[v] != i {
			t.Errorf("%s: %v is at %d, told as at %d", what, v, i, places[v])
		}
	}
}

// anyHeap puts values in and cuts them out in any order; what is cut from the top at the end comes in its order.
func anyHeap[T comparable](t *testing.T, value func(int) T, order func(a, b T) int) {
	t.Helper()
	random := rand.New(rand.NewSource(7))
	for many := range 40 {
		h, places := heaped(order)
		var list []T
		for _, n := range random.Perm(many) {
			h.put(value(n))
			list = append(list, value(n))
			wantHeap(t, "put", h, places, len(list))
			if random.Intn(4) == 0 {
				i := random.Intn(len(h.list))
				v := h.list[i]
				if got := h.cut(i); got != v {
					t.Errorf("cut at %d: %v, want %v", i, got, v)
				}
				list = slices.DeleteFunc(list, func(w T) bool { return w == v })
				wantHeap(t, fmt.Sprint("cut at ", i), h, places, len(list))
			}
		}
		slices.SortFunc(list, order)
		for _, want := range list {
			if got := h.cut(0); got != want {
				t.Errorf("the first: %v, want %v", got, want)
			}
		}
		wantHeap(t, "all cut", h, places, 0)
	}
}

// The heap is of any type that can be compared by a function that is handed in.
func TestHeapOfAnyType(t *testing.T) {
	anyHeap(t, func(n int) int { return n * n }, cmp.Compare[int])
	anyHeap(t, func(n int) int { return n }, func(a, b int) int { return b - a })
	anyHeap(t, func(n int) uint8 { return uint8(n) }, cmp.Compare[uint8])
	anyHeap(t, func(n int) float64 { return 1 / float64(n+1) }, cmp.Compare[float64])
	anyHeap(t, func(n int) string { return fmt.Sprint("mare ", n) }, strings.Compare)
	anyHeap(t, func(n int) [2]int { return [2]int{n % 3, n} }, func(a, b [2]int) int { return slices.Compare(a[:], b[:]) })
	foals := make([]struct{ age int }, 40)
	for i := range foals {
		foals[i].age = i * 7 % 40
	}
	anyHeap(t, func(n int) *struct{ age int } { return &foals[n] }, func(a, b *struct{ age int }) int { return a.age - b.age })
}

// Each place of heaps of each size up to some is cut, put in in every order.
func TestHeapCutEveryPlace(t *testing.T) {
	for many := range 8 {
		for _, in := range orders(many) {
			for i := range many {
				h, places := heaped(cmp.Compare[int])
				for _, n := range in {
					h.put(n)
				}
				v := h.list[i]
				if got := h.cut(i); got != v {
					t.Fatalf("%v: cut at %d: %d, want %d", in, i, got, v)
				}
				wantHeap(t, fmt.Sprint(in), h, places, many-1)
				if t.Failed() {
					return
				}
			}
		}
	}
}

// Values that are alike in their order all stand, and all come out.
func TestHeapOfAlike(t *testing.T) {
	h := &heap[[2]int]{order: func(a, b [2]int) int { return a[0] - b[0] }, moved: func([2]int, int) {}}
	for n := range 60 {
		h.put([2]int{n * 7 % 5, n})
	}
	seen := map[int]bool{}
	for n := range 60 {
		v := h.cut(0)
		wantCount(t, "order", v[0], n/12)
		seen[v[1]] = true
	}
	wantCount(t, "different ones", len(seen), 60)
}

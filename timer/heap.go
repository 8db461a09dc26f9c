package timer

import "slices"

// heap holds values so that the first one in their order stands at place 0: none comes ahead of the one above it.
type heap[T any] struct {
	list  []T
	order func(a, b T) int // below 0, if a comes first; above 0, if b does
	moved func(v T, i int) // is told where a value stands whenever it comes to a place
}

// above is the place above another: half of it, as two stand below each. Above the top, it is no place.
func above(i int) int { return (i+1)/2 - 1 }

// put puts a value in.
func (h *heap[T]) put(v T) {
	h.list = append(h.list, v)
	h.settle(v, len(h.list)-1)
}

// cut takes the value at a place out.
func (h *heap[T]) cut(i int) T {
	v, end := h.list[i], len(h.list)-1
	last := h.list[end]
	// What the list lets go is cleared, so that nothing is kept alive behind its end.
	h.list = slices.Delete(h.list, end, end+1)
	if i < end {
		h.settle(last, i)
	}
	return v
}

// settle lets a value stand where its order asks for it, on the way up or down from a place that is free. What stands on that way gives way.
func (h *heap[T]) settle(v T, i int) {
	for up := above(i); up >= 0 && h.order(v, h.list[up]) < 0; up = above(i) {
		h.stand(h.list[up], i)
		i = up
	}
	for down, ok := h.below(i); ok && h.order(h.list[down], v) < 0; down, ok = h.below(i) {
		h.stand(h.list[down], i)
		i = down
	}
	h.stand(v, i)
}

// below is the place of the first of the two values below a place; false, if there is none.
func (h *heap[T]) below(i int) (int, bool) {
	down := 2*i + 1
	if down+1 < len(h.list) && h.order(h.list[down+1], h.list[down]) < 0 {
		down++
	}
	return down, down < len(h.list)
}

// stand puts a value at a place.
func (h *heap[T]) stand(v T, i int) {
	h.list[i] = v
	h.moved(v, i)
}

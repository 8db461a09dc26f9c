package queue

import (
	"fmt"
	"math"
	"slices"
	"testing"

	"paddock/api"
)

const (
	least    = math.MinInt
	greatest = math.MaxInt
)

// made is a new ring with so many places.
func made[T any](t *testing.T, most int) *Ring[T] {
	t.Helper()
	r, e := New[T](most)
	if r == nil || e != api.OK {
		t.Fatalf("New(%d): %v, %d", most, r, e)
	}
	return r
}

// turned is a new ring whose first place has gone round by so many, with these values. (Its Peak is 1 at least, if it was turned.)
func turned[T any](t *testing.T, most, by int, values ...T) *Ring[T] {
	t.Helper()
	r := made[T](t, most)
	var none T
	for range by {
		r.Push(none)
		r.Pop()
	}
	push(t, r, values...)
	return r
}

// numbers are those from 1 to n.
func numbers(n int) []int {
	list := make([]int, n)
	for i := range n {
		list[i] = i + 1
	}
	return list
}

// push fails, unless all the values go in.
func push[T any](t *testing.T, r *Ring[T], values ...T) {
	t.Helper()
	for _, v := range values {
		if e := r.Push(v); e != api.OK {
			t.Errorf("Push(%v): %d", v, e)
		}
	}
}

// wantValue fails, unless a value, with whether there is one, is what is wanted.
func wantValue[T comparable](t *testing.T, what string, v T, ok bool, want T, there bool) {
	t.Helper()
	if v != want || ok != there {
		t.Errorf("%s: %v, %v, want %v, %v", what, v, ok, want, there)
	}
}

// wantErr fails, unless an answer is what is wanted.
func wantErr(t *testing.T, what string, got, want api.Errno) {
	t.Helper()
	if got != want {
		t.Errorf("%s: %d, want %d", what, got, want)
	}
}

// wantCount fails, unless a number is what is wanted.
func wantCount(t *testing.T, what string, got, want int) {
	t.Helper()
	if got != want {
		t.Errorf("%s: %d, want %d", what, got, want)
	}
}

// wantPressed fails, unless a ring is pressed just if that is wanted.
func wantPressed[T any](t *testing.T, what string, r *Ring[T], want bool) {
	t.Helper()
	if got := r.Pressed(); got != want {
		t.Errorf("%s: Pressed: %v, want %v", what, got, want)
	}
}

// told are the values that an iterator tells; nil, if their places do not count from 0 on.
func told[T any](t *testing.T, what string, all func(func(int, T) bool)) []T {
	t.Helper()
	if all == nil {
		t.Errorf("%s: no iterator", what)
		return nil
	}
	var list []T
	for i, v := range all {
		wantCount(t, what+": place", i, len(list))
		list = append(list, v)
	}
	return list
}

// wantTold fails, unless an iterator tells these values.
func wantTold[T comparable](t *testing.T, what string, all func(func(int, T) bool), want ...T) {
	t.Helper()
	if got := told(t, what, all); !slices.Equal(got, want) {
		t.Errorf("%s: %v, want %v", what, got, want)
	}
}

// wantRow fails, unless a ring holds these values, told in each way, and nothing in its other places.
func wantRow[T comparable](t *testing.T, what string, r *Ring[T], want ...T) {
	t.Helper()
	var none T
	wantTold(t, what+": All", r.All(), want...)
	wantCount(t, what+": Len", r.Len(), len(want))
	wantCount(t, what+": Free", r.Free(), r.Most()-len(want))
	for i, w := range want {
		v, ok := r.At(i)
		wantValue(t, fmt.Sprintf("%s: At(%d)", what, i), v, ok, w, true)
	}
	for _, i := range []int{least, -1, len(want), len(want) + 1, r.Most(), greatest} {
		if i < 0 || i >= len(want) {
			v, ok := r.At(i)
			wantValue(t, fmt.Sprintf("%s: At(%d)", what, i), v, ok, none, false)
		}
	}
	wantLetGo(t, what, r)
}

// wantLetGo fails, unless the places that hold no value are zero.
func wantLetGo[T comparable](t *testing.T, what string, r *Ring[T]) {
	t.Helper()
	var none T
	for i := r.count; i < len(r.places); i++ {
		if at := (r.first + i) % len(r.places); r.places[at] != none {
			t.Errorf("%s: kept in a free place: %v", what, r.places[at])
		}
	}
}

// plain is the chapter's words: a list, and what is said of it.
type plain[T comparable] struct {
	most      int
	list      []T
	marked    bool
	low, high int
	pressed   bool
	peak      int
	refused   int
}

// counted is said behind each call that changed how many there are.
func (p *plain[T]) counted() {
	p.peak = max(p.peak, len(p.list))
	if p.marked && len(p.list) >= p.high {
		p.pressed = true
	} else if p.marked && len(p.list) <= p.low {
		p.pressed = false
	}
}

func (p *plain[T]) push(v T) api.Errno {
	if len(p.list) == p.most {
		p.refused++
		return api.ErrFull
	}
	p.list = append(p.list, v)
	p.counted()
	return api.OK
}

func (p *plain[T]) cut(i int) (T, bool) {
	if i < 0 || i >= len(p.list) {
		var none T
		return none, false
	}
	v := p.list[i]
	p.list = slices.Delete(slices.Clone(p.list), i, i+1)
	p.counted()
	return v, true
}

func (p *plain[T]) set(i int, v T) bool {
	if i < 0 || i >= len(p.list) {
		return false
	}
	p.list[i] = v
	return true
}

func (p *plain[T]) drop(n int) int {
	n = min(max(n, 0), len(p.list))
	p.list = slices.Clone(p.list[n:])
	p.counted()
	return n
}

func (p *plain[T]) mark(low, high int) api.Errno {
	if low < 0 || high <= low || high > p.most {
		return api.ErrArg
	}
	p.marked, p.low, p.high = true, low, high
	p.pressed = len(p.list) >= high
	return api.OK
}

// same fails, unless a ring tells all that the words say.
func (p *plain[T]) same(t *testing.T, what string, r *Ring[T]) {
	t.Helper()
	wantRow(t, what, r, p.list...)
	wantCount(t, what+": Most", r.Most(), p.most)
	wantCount(t, what+": Peak", r.Peak(), p.peak)
	wantCount(t, what+": Refused", r.Refused(), p.refused)
	wantPressed(t, what, r, p.pressed)
}

// calls that change a ring.
const (
	callPush = iota
	callPop
	callSet
	callCut
	callDrop
	callMark
	calls
)

// call is one of them, with its numbers; the values that it puts in come from elsewhere.
type call struct {
	kind int
	i, j int
}

func (c call) String() string {
	return fmt.Sprintf("%s(%d, %d)", []string{"Push", "Pop", "Set", "Cut", "Drop", "Mark"}[c.kind], c.i, c.j)
}

// answer is what a call answered; what its kind does not answer is zero.
type answer[T comparable] struct {
	err api.Errno
	v   T
	ok  bool
	n   int
}

// of does a call to a ring.
func of[T comparable](r *Ring[T], c call, v T) (a answer[T]) {
	switch c.kind {
	case callPush:
		a.err = r.Push(v)
	case callPop:
		a.v, a.ok = r.Pop()
	case callSet:
		a.ok = r.Set(c.i, v)
	case callCut:
		a.v, a.ok = r.Cut(c.i)
	case callDrop:
		a.n = r.Drop(c.i)
	case callMark:
		a.err = r.Mark(c.i, c.j)
	}
	return a
}

// said does the same by the words.
func said[T comparable](p *plain[T], c call, v T) (a answer[T]) {
	switch c.kind {
	case callPush:
		a.err = p.push(v)
	case callPop:
		a.v, a.ok = p.cut(0)
	case callSet:
		a.ok = p.set(c.i, v)
	case callCut:
		a.v, a.ok = p.cut(c.i)
	case callDrop:
		a.n = p.drop(c.i)
	case callMark:
		a.err = p.mark(c.i, c.j)
	}
	return a
}

// both does a call to a ring and by the words, and fails, unless they answer the same.
func both[T comparable](t *testing.T, what string, r *Ring[T], p *plain[T], c call, v T) answer[T] {
	t.Helper()
	got, want := of(r, c, v), said(p, c, v)
	if got != want {
		t.Errorf("%s: %v: %v, want %v", what, c, got, want)
	}
	return got
}

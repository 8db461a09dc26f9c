package timer

import (
	"fmt"
	"iter"
	"math"
	"slices"
	"sort"
	"testing"

	"paddock/api"
)

const (
	least    = math.MinInt
	greatest = math.MaxInt
	topmost  = math.MaxUint32
)

func due(at, object, fence uint32) api.Due { return api.Due{At: at, Object: object, Fence: fence} }

// made are new Dues with room for so many, in which these stand, set in this order.
func made(t *testing.T, most int, list ...api.Due) *Dues {
	t.Helper()
	d, e := New(most)
	if d == nil || e != api.OK {
		t.Fatalf("New(%d): %v, %d", most, d, e)
	}
	set(t, d, list...)
	return d
}

// set fails, unless all go in.
func set(t *testing.T, d *Dues, list ...api.Due) {
	t.Helper()
	for _, x := range list {
		if e := d.Set(x); e != api.OK {
			t.Errorf("Set(%v): %d", x, e)
		}
	}
}

// wantErr fails, unless an answer is what is wanted.
func wantErr(t *testing.T, what string, got, want api.Errno) {
	t.Helper()
	if got != want {
		t.Errorf("%s: %d, want %d", what, got, want)
	}
}

// wantCount fails, unless a number is what is wanted.
func wantCount(t *testing.T, what string, got, want int) {
	t.Helper()
	if got != want {
		t.Errorf("%s: %d, want %d", what, got, want)
	}
}

// wantTrue fails, unless an answer is the truth that is wanted.
func wantTrue(t *testing.T, what string, got, want bool) {
	t.Helper()
	if got != want {
		t.Errorf("%s: %v, want %v", what, got, want)
	}
}

// wantDue fails, unless a due one, with whether there is one, is what is wanted.
func wantDue(t *testing.T, what string, x api.Due, ok bool, want api.Due, there bool) {
	t.Helper()
	if x != want || ok != there {
		t.Errorf("%s: %v, %v, want %v, %v", what, x, ok, want, there)
	}
}

// wantTold fails, unless an iterator tells these.
func wantTold(t *testing.T, what string, all iter.Seq[api.Due], want ...api.Due) {
	t.Helper()
	if all == nil {
		t.Errorf("%s: no iterator", what)
	} else if got := slices.Collect(all); !slices.Equal(got, want) {
		t.Errorf("%s: %v, want %v", what, got, want)
	}
}

// wantStand fails, unless these stand, in this order, told in each way, and nothing else is kept.
func wantStand(t *testing.T, what string, d *Dues, want ...api.Due) {
	t.Helper()
	wantTold(t, what+": All", d.All(), want...)
	wantCount(t, what+": Len", d.Len(), len(want))
	x, ok := d.First()
	if len(want) == 0 {
		wantDue(t, what+": First", x, ok, api.Due{}, false)
		wantTrue(t, what+": Ready at the end", d.Ready(topmost), false)
	} else {
		wantDue(t, what+": First", x, ok, want[0], true)
		wantTrue(t, what+": Ready at its time", d.Ready(want[0].At), true)
		wantTrue(t, what+": Ready at the end", d.Ready(topmost), true)
		wantTrue(t, what+": Ready just ahead of it", want[0].At > 0 && d.Ready(want[0].At-1), false)
	}
	wantWhole(t, what, d.heap)
	wantPlaces(t, what, d)
}

// wantWhole fails, unless in a heap none comes ahead of the one above it, and nothing is kept alive behind its end.
func wantWhole[T comparable](t *testing.T, what string, h *heap[T]) {
	t.Helper()
	for i := 1; i < len(h.list); i++ {
		if h.order(h.list[i], h.list[(i-1)/2]) < 0 {
			t.Errorf("%s: place %d: %v comes ahead of %v", what, i, h.list[i], h.list[(i-1)/2])
		}
	}
	var none T
	for i, v := range h.list[len(h.list):cap(h.list)] {
		if v != none {
			t.Errorf("%s: kept %d behind the end: %v", what, i+1, v)
		}
	}
}

// wantPlaces fails, unless it is known of each one that stands, and of no other, at which place of the heap it is.
func wantPlaces(t *testing.T, what string, d *Dues) {
	t.Helper()
	for i, x := range d.heap.list {
		if at, there := d.places[stay{x.Object, x.Fence}]; !there || at != i {
			t.Errorf("%s: %v is at %d, known as at %d, %v", what, x, i, at, there)
		}
	}
	wantCount(t, what+": places known", len(d.places), len(d.heap.list))
}

// comes is the chapter's order: whether a comes ahead of b.
func comes(a, b api.Due) bool {
	if a.At != b.At {
		return a.At < b.At
	}
	if a.Object != b.Object {
		return a.Object < b.Object
	}
	return a.Fence < b.Fence
}

// inOrder are the same ones in the chapter's order.
func inOrder(list []api.Due) []api.Due {
	list = slices.Clone(list)
	sort.Slice(list, func(i, j int) bool { return comes(list[i], list[j]) })
	return list
}

// plain is the chapter's words: a list in order.
type plain struct {
	most int
	list []api.Due
}

func (p *plain) set(x api.Due) api.Errno {
	for _, y := range p.list {
		if y.Object == x.Object && y.Fence == x.Fence {
			return api.ErrThere
		}
	}
	if len(p.list) == p.most {
		return api.ErrFull
	}
	p.list = inOrder(append(p.list, x))
	return api.OK
}

// cut takes out all that are meant.
func (p *plain) cut(meant func(api.Due) bool) int {
	var rest []api.Due
	for _, x := range p.list {
		if !meant(x) {
			rest = append(rest, x)
		}
	}
	count := len(p.list) - len(rest)
	p.list = rest
	return count
}

func (p *plain) first() (api.Due, bool) {
	if len(p.list) == 0 {
		return api.Due{}, false
	}
	return p.list[0], true
}

func (p *plain) ready(now uint32) bool { return len(p.list) > 0 && p.list[0].At <= now }

func (p *plain) take(now uint32) (api.Due, bool) {
	if !p.ready(now) {
		return api.Due{}, false
	}
	x := p.list[0]
	p.list = p.list[1:]
	return x, true
}

// calls of each kind.
const (
	callSet = iota
	callCut
	callCutObject
	callCutFence
	callFirst
	callReady
	callTake
	calls
)

// call is one of them, with its numbers: At is now, too.
type call struct {
	kind int
	x    api.Due
}

func (c call) String() string {
	return fmt.Sprint([]string{"Set", "Cut", "CutObject", "CutFence", "First", "Ready", "Take"}[c.kind], c.x)
}

// answer is what a call answered; what its kind does not answer is zero.
type answer struct {
	err api.Errno
	x   api.Due
	ok  bool
	n   int
}

// done does a call.
func done(d *Dues, c call) (a answer) {
	switch c.kind {
	case callSet:
		a.err = d.Set(c.x)
	case callCut:
		a.ok = d.Cut(c.x.Object, c.x.Fence)
	case callCutObject:
		a.n = d.CutObject(c.x.Object)
	case callCutFence:
		a.n = d.CutFence(c.x.Fence)
	case callFirst:
		a.x, a.ok = d.First()
	case callReady:
		a.ok = d.Ready(c.x.At)
	case callTake:
		a.x, a.ok = d.Take(c.x.At)
	}
	return a
}

// said does the same by the words.
func said(p *plain, c call) (a answer) {
	switch c.kind {
	case callSet:
		a.err = p.set(c.x)
	case callCut:
		a.ok = p.cut(func(y api.Due) bool { return y.Object == c.x.Object && y.Fence == c.x.Fence }) > 0
	case callCutObject:
		a.n = p.cut(func(y api.Due) bool { return y.Object == c.x.Object })
	case callCutFence:
		a.n = p.cut(func(y api.Due) bool { return y.Fence == c.x.Fence })
	case callFirst:
		a.x, a.ok = p.first()
	case callReady:
		a.ok = p.ready(c.x.At)
	case callTake:
		a.x, a.ok = p.take(c.x.At)
	}
	return a
}

// both does a call and says it by the words, and fails, unless both answer the same.
func both(t *testing.T, what string, d *Dues, p *plain, c call) answer {
	t.Helper()
	got, want := done(d, c), said(p, c)
	if got != want {
		t.Errorf("%s: %v: %v, want %v", what, c, got, want)
	}
	return got
}

// orders are all orders of the numbers below n.
func orders(n int) [][]int {
	if n == 0 {
		return [][]int{{}}
	}
	var list [][]int
	for _, shorter := range orders(n - 1) {
		for i := range n {
			list = append(list, slices.Insert(slices.Clone(shorter), i, n-1))
		}
	}
	return list
}

// mixed are the same ones in another order.
func mixed(list []api.Due, places []int) []api.Due {
	var other []api.Due
	for _, i := range places {
		other = append(other, list[i])
	}
	return other
}

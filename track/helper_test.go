package track

import (
	"fmt"
	"iter"
	"math"
	"slices"
	"testing"

	"paddock/api"
)

const (
	least    = math.MinInt32
	greatest = math.MaxInt32
	topmost  = math.MaxUint32
	tiny     = math.SmallestNonzeroFloat64
	huge     = math.MaxFloat64
)

var (
	inf    = math.Inf(1)
	nan    = math.NaN()
	nought = math.Copysign(0, -1)
)

func at(x, y int32) api.Point { return api.Point{X: x, Y: y} }

// like tells whether two real numbers are alike in an answer.
func like(a, b float64) bool { return a == b || math.IsNaN(a) && math.IsNaN(b) }

// sameObject tells whether two objects are alike in an answer.
func sameObject(a, b api.Object) bool {
	return a.Id == b.Id && a.Number == b.Number && a.Time == b.Time && a.Place == b.Place && like(a.Speed, b.Speed) && slices.Equal(a.In, b.In)
}

func sameObjects(a, b []api.Object) bool { return slices.EqualFunc(a, b, sameObject) }

// copied are the same objects, which have nothing in common with those.
func copied(list []api.Object) []api.Object {
	list = slices.Clone(list)
	for i := range list {
		list[i].In = slices.Clone(list[i].In)
	}
	return list
}

// wantErr fails, unless an answer is what is wanted.
func wantErr(t *testing.T, what string, got, want api.Errno) {
	t.Helper()
	if got != want {
		t.Errorf("%s: %d, want %d", what, got, want)
	}
}

// wantTrue fails, unless an answer is the truth that is wanted.
func wantTrue(t *testing.T, what string, got, want bool) {
	t.Helper()
	if got != want {
		t.Errorf("%s: %v, want %v", what, got, want)
	}
}

// wantFloat fails, unless a real number is what is wanted.
func wantFloat(t *testing.T, what string, got, want float64) {
	t.Helper()
	if !like(got, want) {
		t.Errorf("%s: %v, want %v", what, got, want)
	}
}

// wantNumbers fails, unless numbers are those that are wanted.
func wantNumbers(t *testing.T, what string, got []uint32, want ...uint32) {
	t.Helper()
	if !slices.Equal(got, want) {
		t.Errorf("%s: %v, want %v", what, got, want)
	}
}

// wantTold fails, unless an iterator tells these objects.
func wantTold(t *testing.T, what string, all iter.Seq[api.Object], want ...api.Object) {
	t.Helper()
	if all == nil {
		t.Errorf("%s: no iterator", what)
	} else if got := slices.Collect(all); !sameObjects(got, want) {
		t.Errorf("%s: %v, want %v", what, got, want)
	}
}

// made is a new book with so much room, to which these calls were made, all of which went well, and what the words say of it.
func made(t *testing.T, objects, fences int, list ...call) (*Book, *plain) {
	t.Helper()
	b, e := New(objects, fences)
	if b == nil || e != api.OK {
		t.Fatalf("New(%d, %d): %v, %d", objects, fences, b, e)
	}
	p := &plain{objects: objects, fences: fences}
	for _, c := range list {
		if a := both(t, "made", b, p, c); a.err != api.OK {
			t.Errorf("made: %v: %d", c, a.err)
		}
	}
	return b, p
}

// kinds of calls that change a book.
const (
	callMove = iota
	callLay
	callForget
	callAddFence
	callDropFence
	callEnter
	callLeave
	calls
)

// call is one of them, with what it is given: an object (Move has no Speed and no In, and of those that have a number alone there is no more of it), and a fence.
type call struct {
	kind  int
	o     api.Object
	fence uint32
}

func (c call) String() string {
	name := []string{"Move", "Lay", "Forget", "AddFence", "DropFence", "Enter", "Leave"}[c.kind]
	switch c.kind {
	case callMove, callLay:
		return fmt.Sprint(name, c.o)
	case callForget:
		return fmt.Sprint(name, " ", c.o.Id)
	case callAddFence, callDropFence:
		return fmt.Sprint(name, " ", c.fence)
	}
	return fmt.Sprint(name, " ", c.o.Id, " ", c.fence)
}

func moving(object, number, time uint32, q api.Point) call {
	return call{kind: callMove, o: api.Object{Id: object, Number: number, Time: time, Place: q}}
}

func laying(o api.Object) call           { return call{kind: callLay, o: o} }
func forgetting(object uint32) call      { return call{kind: callForget, o: api.Object{Id: object}} }
func adding(fence uint32) call           { return call{kind: callAddFence, fence: fence} }
func dropping(fence uint32) call         { return call{kind: callDropFence, fence: fence} }
func entering(object, fence uint32) call { return call{callEnter, api.Object{Id: object}, fence} }
func leaving(object, fence uint32) call  { return call{callLeave, api.Object{Id: object}, fence} }

// answer is what a call answered; what its kind does not answer is zero.
type answer struct {
	place api.Point
	ok    bool
	err   api.Errno
}

// done does a call.
func done(b *Book, c call) (a answer) {
	switch c.kind {
	case callMove:
		a.place, a.ok, a.err = b.Move(c.o.Id, c.o.Number, c.o.Time, c.o.Place)
	case callLay:
		a.err = b.Lay(c.o)
	case callForget:
		a.ok = b.Forget(c.o.Id)
	case callAddFence:
		a.err = b.AddFence(c.fence)
	case callDropFence:
		a.ok = b.DropFence(c.fence)
	case callEnter:
		a.ok, a.err = b.Enter(c.o.Id, c.fence)
	case callLeave:
		a.ok, a.err = b.Leave(c.o.Id, c.fence)
	}
	return a
}

// said does the same by the words.
func said(p *plain, c call) (a answer) {
	switch c.kind {
	case callMove:
		return p.move(c.o)
	case callLay:
		a.err = p.lay(c.o)
	case callForget:
		a.ok = p.forget(c.o.Id)
	case callAddFence:
		a.err = p.addFence(c.fence)
	case callDropFence:
		a.ok = p.dropFence(c.fence)
	case callEnter:
		a.ok, a.err = p.turn(c.o.Id, c.fence, true)
	case callLeave:
		a.ok, a.err = p.turn(c.o.Id, c.fence, false)
	}
	return a
}

// both does a call and says it by the words, and fails, unless both answer the same.
func both(t *testing.T, what string, b *Book, p *plain, c call) answer {
	t.Helper()
	got, want := done(b, c), said(p, c)
	if got != want {
		t.Errorf("%s: %v: %v, want %v", what, c, got, want)
	}
	return got
}

// plain is a book by the chapter's words: a list of objects by number, each with its own list of fences, and a list of fences, rising.
type plain struct {
	objects, fences int
	list            []api.Object
	fenced          []uint32
}

// find is the place of an object in the list; -1, if it is not there.
func (p *plain) find(object uint32) int {
	return slices.IndexFunc(p.list, func(o api.Object) bool { return o.Id == object })
}

func (p *plain) there(fence uint32) bool { return slices.Contains(p.fenced, fence) }

func (p *plain) move(o api.Object) answer {
	i := p.find(o.Id)
	if i < 0 {
		return answer{err: p.take(o)}
	}
	was := p.list[i]
	p.list[i] = api.Object{Id: o.Id, Number: o.Number, Time: o.Time, Place: o.Place, Speed: Speed(was.Speed, was.Place, o.Place, was.Time, o.Time), In: was.In}
	return answer{place: was.Place, ok: true}
}

// take takes in an object that is not there.
func (p *plain) take(o api.Object) api.Errno {
	if len(p.list) == p.objects {
		return api.ErrFull
	}
	for _, f := range o.In {
		if !p.there(f) {
			return api.ErrLost
		}
	}
	o.In = slices.Clone(o.In)
	p.list = append(p.list, o)
	slices.SortFunc(p.list, func(a, b api.Object) int {
		if a.Id < b.Id {
			return -1
		}
		return 1
	})
	return api.OK
}

func (p *plain) lay(o api.Object) api.Errno {
	if p.find(o.Id) >= 0 {
		return api.ErrArg
	}
	for i := range o.In {
		for j := range i {
			if o.In[j] >= o.In[i] {
				return api.ErrArg
			}
		}
	}
	return p.take(o)
}

func (p *plain) forget(object uint32) bool {
	i := p.find(object)
	if i >= 0 {
		p.list = slices.Concat(p.list[:i], p.list[i+1:])
	}
	return i >= 0
}

func (p *plain) addFence(fence uint32) api.Errno {
	if p.there(fence) {
		return api.ErrTracked
	}
	if len(p.fenced) == p.fences {
		return api.ErrFull
	}
	p.fenced = append(slices.Clone(p.fenced), fence)
	slices.Sort(p.fenced)
	return api.OK
}

// without is a list without a number.
func without(list []uint32, n uint32) []uint32 {
	var rest []uint32
	for _, m := range list {
		if m != n {
			rest = append(rest, m)
		}
	}
	return rest
}

func (p *plain) dropFence(fence uint32) bool {
	there := p.there(fence)
	p.fenced = without(p.fenced, fence)
	for i := range p.list {
		p.list[i].In = without(p.list[i].In, fence)
	}
	return there
}

// turn is Enter, or Leave: it tells whether the object was not in the fence as it is to be now.
func (p *plain) turn(object, fence uint32, in bool) (bool, api.Errno) {
	i := p.find(object)
	if i < 0 || !p.there(fence) {
		return false, api.ErrLost
	}
	was := slices.Contains(p.list[i].In, fence)
	p.list[i].In = without(p.list[i].In, fence)
	if in {
		p.list[i].In = append(p.list[i].In, fence)
		slices.Sort(p.list[i].In)
	}
	return was != in, api.OK
}

func (p *plain) in(object, fence uint32) bool {
	i := p.find(object)
	return i >= 0 && slices.Contains(p.list[i].In, fence)
}

func (p *plain) inside(fence uint32) []uint32 {
	var list []uint32
	for _, o := range p.list {
		if slices.Contains(o.In, fence) {
			list = append(list, o.Id)
		}
	}
	return list
}

// asked are the numbers of some things at which a book is asked: their own, those beside them, small ones and those at the ends.
func asked(ids []uint32) []uint32 {
	list := []uint32{0, 1, 2, 3, 4, 5, 6, 7, 8, 9, 1 << 31, topmost - 1, topmost}
	for _, id := range ids {
		list = append(list, id-1, id, id+1)
	}
	slices.Sort(list)
	return slices.Compact(list)
}

// wantBook fails, unless a book says in each way what the words say, and keeps nothing else.
func wantBook(t *testing.T, what string, b *Book, p *plain) {
	t.Helper()
	wantTold(t, what+": All", b.All(), p.list...)
	if b.Len() != len(p.list) {
		t.Errorf("%s: Len: %d, want %d", what, b.Len(), len(p.list))
	}
	var ids []uint32
	for _, o := range p.list {
		ids = append(ids, o.Id)
	}
	fences := asked(p.fenced)
	for _, object := range asked(ids) {
		var want api.Object
		i := p.find(object)
		if i >= 0 {
			want = p.list[i]
		}
		if o, ok := b.Get(object); !sameObject(o, want) || ok != (i >= 0) {
			t.Errorf("%s: Get(%d): %v, %v, want %v", what, object, o, ok, want)
		}
		for _, fence := range fences {
			if got, want := b.In(object, fence), p.in(object, fence); got != want {
				t.Errorf("%s: In(%d, %d): %v, want %v", what, object, fence, got, want)
			}
		}
	}
	for _, fence := range fences {
		if got, want := b.Inside(fence), p.inside(fence); !slices.Equal(got, want) {
			t.Errorf("%s: Inside(%d): %v, want %v", what, fence, got, want)
		}
	}
	wantFenced(t, what, b, p)
}

// wantFenced fails, unless a book has just these fences, each at a place of its own, and nothing stands at other places.
func wantFenced(t *testing.T, what string, b *Book, p *plain) {
	t.Helper()
	var fenced []uint32
	taken := map[int]bool{}
	for fence, place := range b.fences.All() {
		fenced = append(fenced, fence)
		taken[place] = true
		wantTrue(t, what+": a place is had", b.places.Has(place), true)
	}
	wantNumbers(t, what+": fences", fenced, p.fenced...)
	if len(taken) != len(fenced) || b.places.Count() != len(fenced) {
		t.Errorf("%s: %d fences have %d places, %d are had", what, len(fenced), len(taken), b.places.Count())
	}
	for object, m := range b.objects.All() {
		for place := range m.All() {
			wantTrue(t, fmt.Sprint(what, ": a place at which ", object, " stands"), taken[place], true)
		}
	}
}

// orders are all orders of the numbers below n.
func orders(n int) [][]int {
	if n == 0 {
		return [][]int{{}}
	}
	var list [][]int
	for _, shorter := range orders(n - 1) {
		for i := range n {
			list = append(list, slices.Insert(slices.Clone(shorter), i, n-1))
		}
	}
	return list
}

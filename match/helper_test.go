package match

import (
	"cmp"
	"fmt"
	"math"
	"slices"
	"testing"

	"paddock/api"
	"paddock/shape"
	"paddock/track"
)

const (
	bound    = api.Bound
	least    = math.MinInt32
	greatest = math.MaxInt32
	topmost  = math.MaxUint32
)

func at(x, y int32) api.Point { return api.Point{X: x, Y: y} }

// of makes points out of coordinates.
func of(c ...int32) []api.Point {
	var list []api.Point
	for i := 0; i+1 < len(c); i += 2 {
		list = append(list, at(c[i], c[i+1]))
	}
	return list
}

func rectOf(x1, y1, x2, y2 int32) api.Shape {
	return api.Shape{Kind: api.Rect, Verts: of(x1, y1, x2, y2)}
}

func discOf(x, y, size int32) api.Shape {
	return api.Shape{Kind: api.Disc, Verts: of(x, y), Size: size}
}

func corridorOf(size int32, c ...int32) api.Shape {
	return api.Shape{Kind: api.Corridor, Verts: of(c...), Size: size}
}

func polyOf(verts []api.Point, holes ...[]api.Point) api.Shape {
	return api.Shape{Kind: api.Poly, Verts: verts, Holes: holes}
}

// square is a ring round from the one corner.
func square(x, y, side int32) []api.Point {
	return of(x, y, x+side, y, x+side, y+side, x, y+side)
}

// holed is a square from (0, 0) to (9, 9) with a hole from (3, 3) to (6, 6).
func holed() api.Shape { return polyOf(square(0, 0, 9), square(3, 3, 3)) }

func fenceOf(id, dwell uint32, s api.Shape) api.Fence {
	return api.Fence{Id: id, Dwell: dwell, Shape: s}
}

// copiedShape is the same shape, which has nothing in common with that.
func copiedShape(s api.Shape) api.Shape {
	s.Verts, s.Holes = slices.Clone(s.Verts), slices.Clone(s.Holes)
	for i, h := range s.Holes {
		s.Holes[i] = slices.Clone(h)
	}
	return s
}

func copiedFences(list []api.Fence) []api.Fence {
	list = slices.Clone(list)
	for i := range list {
		list[i].Shape = copiedShape(list[i].Shape)
	}
	return list
}

func copiedObjects(list []api.Object) []api.Object {
	list = slices.Clone(list)
	for i := range list {
		list[i].In = slices.Clone(list[i].In)
	}
	return list
}

func sameObject(a, b api.Object) bool {
	return a.Id == b.Id && a.Number == b.Number && a.Time == b.Time && a.Place == b.Place && a.Speed == b.Speed && slices.Equal(a.In, b.In)
}

func sameObjects(a, b []api.Object) bool { return slices.EqualFunc(a, b, sameObject) }

func sameFence(a, b api.Fence) bool {
	return a.Id == b.Id && a.Dwell == b.Dwell && shape.Same(a.Shape, b.Shape)
}

func sameFences(a, b []api.Fence) bool { return slices.EqualFunc(a, b, sameFence) }

// wantErr fails, unless an answer is what is wanted.
func wantErr(t *testing.T, what string, got, want api.Errno) {
	t.Helper()
	if got != want {
		t.Errorf("%s: %d, want %d", what, got, want)
	}
}

// wantTrue fails, unless an answer is the truth that is wanted.
func wantTrue(t *testing.T, what string, got, want bool) {
	t.Helper()
	if got != want {
		t.Errorf("%s: %v, want %v", what, got, want)
	}
}

// wantEvents fails, unless these events are told.
func wantEvents(t *testing.T, what string, got []api.Event, want ...api.Event) {
	t.Helper()
	if !slices.Equal(got, want) {
		t.Errorf("%s: %v, want %v", what, got, want)
	}
}

// brief is what happened to whom and where, without the rest of an event.
type brief struct {
	kind          api.EventKind
	object, fence uint32
}

func entered(object, fence uint32) brief { return brief{api.Enter, object, fence} }
func left(object, fence uint32) brief    { return brief{api.Leave, object, fence} }
func passed(object, fence uint32) brief  { return brief{api.Pass, object, fence} }
func stayed(object, fence uint32) brief  { return brief{api.Stay, object, fence} }

func briefs(events []api.Event) []brief {
	var list []brief
	for _, e := range events {
		list = append(list, brief{e.Kind, e.Object, e.Fence})
	}
	return list
}

// wantBriefs fails, unless events tell this.
func wantBriefs(t *testing.T, what string, got []api.Event, want ...brief) {
	t.Helper()
	if !slices.Equal(briefs(got), want) {
		t.Errorf("%s: %v, want %v", what, briefs(got), want)
	}
}

// configs have so much room, and are of each index, with cells of several sizes.
func configs(objects, fences int) []api.Config {
	var list []api.Config
	for _, i := range []api.Config{{Index: 0, Cell: 1}, {Index: 1, Cell: 3}, {Index: 1, Cell: 1}, {Index: 1, Cell: api.MaxCell}, {Index: 2, Cell: 5}} {
		i.Objects, i.Fences = objects, fences
		list = append(list, i)
	}
	return list
}

// worlds are one of each of the configs, to which the same is done.
type worlds []*World

// made are new worlds with so much room, to which these calls were made, all of which went well, and what the words say of them.
func made(t *testing.T, objects, fences int, list ...call) (worlds, *plain) {
	t.Helper()
	var ws worlds
	for _, c := range configs(objects, fences) {
		w, e := New(c)
		if w == nil || e != api.OK {
			t.Fatalf("New(%v): %v, %d", c, w, e)
		}
		ws = append(ws, w)
	}
	p := &plain{room: objects, fenceRoom: fences}
	for _, c := range list {
		if a := both(t, "made", ws, p, c); a.err != api.OK {
			t.Errorf("made: %v: %d", c, a.err)
		}
	}
	return ws, p
}

// kinds of calls that change a world.
const (
	callUpdate = iota
	callForget
	callFence
	callUnfence
	callDue
	calls
)

// call is one of them, with what it is given.
type call struct {
	kind         int
	object       uint32
	number, time uint32
	place        api.Point
	fence        api.Fence // of Unfence its number alone
	clock        uint32
}

func (c call) String() string {
	switch c.kind {
	case callUpdate:
		return fmt.Sprint("Update ", c.object, c.number, c.time, c.place, " at ", c.clock)
	case callForget:
		return fmt.Sprint("Forget ", c.object, " at ", c.clock)
	case callFence:
		return fmt.Sprint("Fence ", c.fence, " at ", c.clock)
	case callUnfence:
		return fmt.Sprint("Unfence ", c.fence.Id, " at ", c.clock)
	}
	return fmt.Sprint("Due at ", c.clock)
}

func updating(object, number, time uint32, place api.Point, clock uint32) call {
	return call{kind: callUpdate, object: object, number: number, time: time, place: place, clock: clock}
}

// going is an update whose number and time are the clock.
func going(object uint32, place api.Point, clock uint32) call {
	return updating(object, clock, clock, place, clock)
}

func forgetting(object, clock uint32) call {
	return call{kind: callForget, object: object, clock: clock}
}

func fencing(f api.Fence, clock uint32) call {
	return call{kind: callFence, fence: f, clock: clock}
}

func unfencing(fence, clock uint32) call {
	return call{kind: callUnfence, fence: api.Fence{Id: fence}, clock: clock}
}

func taking(clock uint32) call { return call{kind: callDue, clock: clock} }

// commands are the commands whose worst case a call's is; of Due there is none.
func (c call) command() (api.CommandKind, bool) {
	list := []api.CommandKind{api.CmdUpdate, api.CmdForget, api.CmdFence, api.CmdUnfence}
	if c.kind < len(list) {
		return list[c.kind], true
	}
	return 0, false
}

// answer is what a call answered; what its kind does not answer is zero. A Due's event is a list of one; none, if the answer is false.
type answer struct {
	events []api.Event
	ok     bool
	err    api.Errno
}

func sameAnswer(a, b answer) bool {
	return slices.Equal(a.events, b.events) && a.ok == b.ok && a.err == b.err
}

// done does a call.
func done(w *World, c call) (a answer) {
	switch c.kind {
	case callUpdate:
		a.events, a.err = w.Update(c.object, c.number, c.time, c.place, c.clock)
	case callForget:
		a.events = w.Forget(c.object, c.clock)
	case callFence:
		a.events, a.err = w.Fence(c.fence, c.clock)
	case callUnfence:
		a.events = w.Unfence(c.fence.Id, c.clock)
	case callDue:
		e, ok := w.Due(c.clock)
		if a.ok = ok; ok || e != (api.Event{}) {
			a.events = []api.Event{e}
		}
	}
	return a
}

// both does a call to worlds and says it by the words, and fails, unless all answer the same, and not more than was told to be the worst (P19.14).
func both(t *testing.T, what string, ws worlds, p *plain, c call) answer {
	t.Helper()
	ahead := p.worst(c)
	want := p.said(c)
	for i, w := range ws {
		if k, ok := c.command(); ok && w.Worst(k) != ahead {
			t.Errorf("%s: world %d: %v: Worst: %d, want %d", what, i, c, w.Worst(k), ahead)
		}
		due := w.HasDue(c.clock)
		got := done(w, c)
		if !sameAnswer(got, want) {
			t.Errorf("%s: world %d: %v: %v, want %v", what, i, c, got, want)
		}
		if len(got.events) > ahead || c.kind == callDue && due != got.ok {
			t.Errorf("%s: world %d: %v: %d events, at most %d, HasDue %v", what, i, c, len(got.events), ahead, due)
		}
	}
	return want
}

// plain is a world by the document's words: lists by number, in which every fence's shape is asked.
type plain struct {
	room, fenceRoom int
	objects         []api.Object
	fences          []api.Fence
	dues            []api.Due
}

// worst is how many events a call can make at most.
func (p *plain) worst(c call) int {
	switch c.kind {
	case callUpdate, callForget:
		return len(p.fences)
	case callFence, callUnfence:
		return len(p.objects)
	}
	return 1
}

// said does a call by the words.
func (p *plain) said(c call) (a answer) {
	switch c.kind {
	case callUpdate:
		return p.update(c)
	case callForget:
		return p.forget(c)
	case callFence:
		return p.putFence(c)
	case callUnfence:
		return p.unfence(c)
	}
	return p.due(c)
}

// object is the place of an object in the list; -1, if it is not there.
func (p *plain) object(object uint32) int {
	return slices.IndexFunc(p.objects, func(o api.Object) bool { return o.Id == object })
}

// fence is the place of a fence in the list; -1, if it is not there.
func (p *plain) fence(fence uint32) int {
	return slices.IndexFunc(p.fences, func(f api.Fence) bool { return f.Id == fence })
}

func onLattice(q api.Point) bool {
	return q.X >= -bound && q.X <= bound && q.Y >= -bound && q.Y <= bound
}

// event is what happened to the object at a place of the list.
func (p *plain) event(kind api.EventKind, i int, fence, clock uint32) api.Event {
	o := p.objects[i]
	return api.Event{Kind: kind, Object: o.Id, Fence: fence, Number: o.Number, Place: o.Place, Clock: clock, Speed: o.Speed}
}

// enters says that an object entered a fence.
func (p *plain) enters(i int, f api.Fence, clock uint32) api.Event {
	o := &p.objects[i]
	o.In = append(slices.Clone(o.In), f.Id)
	slices.Sort(o.In)
	if when := float64(clock) + float64(f.Dwell); f.Dwell > 0 && when < 1<<32 {
		p.dues = append(slices.Clone(p.dues), api.Due{At: clock + f.Dwell, Object: o.Id, Fence: f.Id})
		slices.SortFunc(p.dues, func(a, b api.Due) int {
			return cmp.Or(cmp.Compare(a.At, b.At), cmp.Compare(a.Object, b.Object), cmp.Compare(a.Fence, b.Fence))
		})
	}
	return p.event(api.Enter, i, f.Id, clock)
}

// leaves says that an object left a fence.
func (p *plain) leaves(i int, f api.Fence, clock uint32) api.Event {
	o := &p.objects[i]
	o.In = slices.DeleteFunc(slices.Clone(o.In), func(id uint32) bool { return id == f.Id })
	p.dues = slices.DeleteFunc(slices.Clone(p.dues), func(x api.Due) bool { return x.Object == o.Id && x.Fence == f.Id })
	return p.event(api.Leave, i, f.Id, clock)
}

func (p *plain) update(c call) (a answer) {
	q := c.place
	if !onLattice(q) {
		return answer{err: api.ErrPlace}
	}
	i := p.object(c.object)
	known := i >= 0
	var way api.Object
	if !known {
		if len(p.objects) == p.room {
			return answer{err: api.ErrFull}
		}
		p.objects = append(slices.Clone(p.objects), api.Object{Id: c.object})
		slices.SortFunc(p.objects, func(a, b api.Object) int { return cmp.Compare(a.Id, b.Id) })
		i = p.object(c.object)
	} else {
		way = p.objects[i]
		p.objects[i].Speed = track.Speed(way.Speed, way.Place, q, way.Time, c.time)
	}
	p.objects[i].Number, p.objects[i].Time, p.objects[i].Place = c.number, c.time, q
	var leavings, passings, enterings []api.Event
	for _, f := range p.fences {
		in, covers := slices.Contains(way.In, f.Id), shape.Covers(f.Shape, q)
		if in && !covers {
			leavings = append(leavings, p.leaves(i, f, c.clock))
		}
		if !in && covers {
			enterings = append(enterings, p.enters(i, f, c.clock))
		}
		if !in && !covers && known && shape.Meets(f.Shape, way.Place, q) {
			passings = append(passings, p.event(api.Pass, i, f.Id, c.clock))
		}
	}
	return answer{events: slices.Concat(leavings, passings, enterings)}
}

func (p *plain) forget(c call) (a answer) {
	i := p.object(c.object)
	if i < 0 {
		return a
	}
	for _, f := range p.fences {
		if slices.Contains(p.objects[i].In, f.Id) {
			a.events = append(a.events, p.leaves(i, f, c.clock))
		}
	}
	p.objects = slices.Concat(p.objects[:i], p.objects[i+1:])
	return a
}

func (p *plain) putFence(c call) (a answer) {
	if e := shape.Check(c.fence.Shape); e != api.OK {
		return answer{err: e}
	}
	if p.fence(c.fence.Id) >= 0 {
		return answer{err: api.ErrThere}
	}
	if len(p.fences) == p.fenceRoom {
		return answer{err: api.ErrFull}
	}
	f := c.fence
	f.Shape = copiedShape(f.Shape)
	p.fences = append(slices.Clone(p.fences), f)
	slices.SortFunc(p.fences, func(a, b api.Fence) int { return cmp.Compare(a.Id, b.Id) })
	for i, o := range p.objects {
		if shape.Covers(f.Shape, o.Place) {
			a.events = append(a.events, p.enters(i, f, c.clock))
		}
	}
	return a
}

func (p *plain) unfence(c call) (a answer) {
	k := p.fence(c.fence.Id)
	if k < 0 {
		return a
	}
	for i, o := range p.objects {
		if slices.Contains(o.In, c.fence.Id) {
			a.events = append(a.events, p.leaves(i, p.fences[k], c.clock))
		}
	}
	p.fences = slices.Concat(p.fences[:k], p.fences[k+1:])
	return a
}

func (p *plain) due(c call) (a answer) {
	if len(p.dues) == 0 || p.dues[0].At > c.clock {
		return a
	}
	x := p.dues[0]
	p.dues = p.dues[1:]
	return answer{events: []api.Event{p.event(api.Stay, p.object(x.Object), x.Fence, c.clock)}, ok: true}
}

// asked are the numbers of some things at which a world is asked: their own, those beside them, small ones and those at the ends.
func asked(ids []uint32) []uint32 {
	list := []uint32{0, 1, 2, 3, 4, 5, 6, 7, 8, 9, 1 << 31, topmost - 1, topmost}
	for _, id := range ids {
		list = append(list, id-1, id, id+1)
	}
	slices.Sort(list)
	return slices.Compact(list)
}

// wantWorlds fails, unless each of some worlds says what the words say.
func wantWorlds(t *testing.T, what string, ws worlds, p *plain) {
	t.Helper()
	for i, w := range ws {
		wantWorld(t, fmt.Sprint(what, ": world ", i), w, p)
	}
}

// wantWorld fails, unless a world says in each way what the words say, stands as P19.11 asks, and keeps nothing else.
func wantWorld(t *testing.T, what string, w *World, p *plain) {
	t.Helper()
	objects, fences, dues := w.Objects(), w.Fences(), w.Dues()
	if !sameObjects(objects, p.objects) {
		t.Errorf("%s: Objects: %v, want %v", what, objects, p.objects)
	}
	if !sameFences(fences, p.fences) {
		t.Errorf("%s: Fences: %v, want %v", what, fences, p.fences)
	}
	if !slices.Equal(dues, p.dues) {
		t.Errorf("%s: Dues: %v, want %v", what, dues, p.dues)
	}
	var ids, fenceIds, clocks []uint32
	for _, o := range p.objects {
		ids = append(ids, o.Id)
	}
	for _, f := range p.fences {
		fenceIds = append(fenceIds, f.Id)
	}
	for _, x := range p.dues {
		clocks = append(clocks, x.At)
	}
	for _, n := range asked(slices.Concat(ids, fenceIds)) {
		wantTrue(t, fmt.Sprint(what, ": HasObject ", n), w.HasObject(n), slices.Contains(ids, n))
		wantTrue(t, fmt.Sprint(what, ": HasFence ", n), w.HasFence(n), slices.Contains(fenceIds, n))
	}
	for _, clock := range asked(clocks) {
		wantTrue(t, fmt.Sprint(what, ": HasDue ", clock), w.HasDue(clock), len(p.dues) > 0 && p.dues[0].At <= clock)
	}
	wantWorst(t, what, w, p)
	wantStands(t, what, objects, fences, dues)
	wantKept(t, what, w)
}

// wantWorst fails, unless a world tells the worst case of each kind of command, and of what is none (P19.8).
func wantWorst(t *testing.T, what string, w *World, p *plain) {
	t.Helper()
	for k := range 256 {
		want := 0
		switch api.CommandKind(k) {
		case api.CmdUpdate, api.CmdForget:
			want = len(p.fences)
		case api.CmdFence, api.CmdUnfence:
			want = len(p.objects)
		}
		if got := w.Worst(api.CommandKind(k)); got != want {
			t.Errorf("%s: Worst(%d): %d, want %d", what, k, got, want)
		}
	}
}

// wantStands fails, unless what a world tells of itself is as P19.11 asks.
func wantStands(t *testing.T, what string, objects []api.Object, fences []api.Fence, dues []api.Due) {
	t.Helper()
	for _, o := range objects {
		var in []uint32
		for _, f := range fences {
			if shape.Covers(f.Shape, o.Place) {
				in = append(in, f.Id)
			}
		}
		if !slices.Equal(o.In, in) || math.IsNaN(o.Speed) {
			t.Errorf("%s: %v is covered by %v", what, o, in)
		}
	}
	for _, x := range dues {
		i := slices.IndexFunc(objects, func(o api.Object) bool { return o.Id == x.Object })
		k := slices.IndexFunc(fences, func(f api.Fence) bool { return f.Id == x.Fence })
		if i < 0 || k < 0 || !slices.Contains(objects[i].In, x.Fence) || fences[k].Dwell == 0 {
			t.Errorf("%s: %v is nobody's", what, x)
		}
	}
}

// wantKept fails, unless what a world keeps of its fences is of those that it has alone, each at a place of its own.
func wantKept(t *testing.T, what string, w *World) {
	t.Helper()
	taken := map[int]bool{}
	for id, f := range w.fences.All() {
		taken[f.place] = true
		if f.Id != id || !w.places.Has(f.place) {
			t.Errorf("%s: the fence %d is kept as %v", what, id, f)
		}
	}
	if n := w.fences.Len(); len(taken) != n || w.places.Count() != n || w.index.Len() != n {
		t.Errorf("%s: %d fences have %d places of %d, and %d boxes", what, n, len(taken), w.places.Count(), w.index.Len())
	}
}

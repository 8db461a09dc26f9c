package match

import (
	"fmt"
	"slices"
	"testing"

	"paddock/api"
)

// spoil overwrites points, and the spare room behind them.
func spoil(list []api.Point) {
	list = list[:cap(list)]
	for i := range list {
		list[i] = at(77, 77)
	}
}

// spoilShape overwrites all that a shape's lists have, and the spare room behind them.
func spoilShape(s api.Shape) {
	spoil(s.Verts)
	holes := s.Holes[:cap(s.Holes)]
	for i := range holes {
		spoil(holes[i])
		holes[i] = of(1, 1)
	}
}

// spoilFences and its like overwrite all of what was told, or handed in.
func spoilFences(list []api.Fence) {
	list = list[:cap(list)]
	for i := range list {
		spoilShape(list[i].Shape)
		list[i] = api.Fence{Id: 99, Dwell: 99}
	}
}

func spoilNumbers(list []uint32) {
	list = list[:cap(list)]
	for i := range list {
		list[i] = 99
	}
}

func spoilObjects(list []api.Object) {
	list = list[:cap(list)]
	for i := range list {
		spoilNumbers(list[i].In)
		list[i] = api.Object{Id: 99}
	}
}

func spoilDues(list []api.Due) {
	list = list[:cap(list)]
	for i := range list {
		list[i] = api.Due{At: 99, Object: 99, Fence: 99}
	}
}

func spoilEvents(list []api.Event) {
	list = list[:cap(list)]
	for i := range list {
		list[i] = api.Event{Object: 99}
	}
}

// P19.9: what Objects, Fences and Dues tell is new memory: whatever becomes of it, the world stays as it is, and so does what was told beside it.
func TestToldIsApart(t *testing.T) {
	ws, p := worldsOf(t, "standing", 5, 5, standing())
	for i, w := range ws {
		what := fmt.Sprint("world ", i)
		objects, fences, dues := w.Objects(), w.Fences(), w.Dues()
		others, otherFences, otherDues := w.Objects(), w.Fences(), w.Dues()
		spoilObjects(objects)
		spoilFences(fences)
		spoilDues(dues)
		wantWorld(t, what, w, p)
		wantTrue(t, what+": told beside it", sameObjects(others, p.objects) && sameFences(otherFences, p.fences) && slices.Equal(otherDues, p.dues), true)
	}
	both(t, "goes on", ws, p, going(0, at(-10, -10), 1))
	both(t, "goes on", ws, p, going(0, at(50, 50), 2))
	both(t, "goes on", ws, p, taking(9))
	wantWorlds(t, "goes on", ws, p)
}

// P19.9: no two lists of one answer share anything, spare room included.
func TestToldListsApart(t *testing.T) {
	s := standing()
	s.objects[1].Place, s.objects[1].In = at(5, 6), []uint32{3, 7}
	ws, p := worldsOf(t, "standing", 5, 5, s)
	for i, w := range ws {
		what := fmt.Sprint("world ", i)
		for k := range p.objects {
			objects := w.Objects()
			spoilNumbers(objects[k].In)
			for j := range objects {
				wantTrue(t, what+": In", j == k || sameObject(objects[j], p.objects[j]), true)
			}
		}
		for k := range p.fences {
			fences := w.Fences()
			spoilShape(fences[k].Shape)
			for j := range fences {
				wantTrue(t, what+": a shape", j == k || sameFence(fences[j], p.fences[j]), true)
			}
			fences = w.Fences()
			spoil(fences[k].Shape.Verts)
			for j, h := range fences[k].Shape.Holes {
				wantTrue(t, what+": a hole", slices.Equal(h, p.fences[k].Shape.Holes[j]), true)
			}
		}
		wantWorld(t, what, w, p)
	}
}

// P0.1: the events of a call are new memory.
func TestEventsApart(t *testing.T) {
	for _, c := range configs(2, 3) {
		w, _ := New(c)
		for i := range uint32(3) {
			w.Fence(fenceOf(i, 1, rectOf(0, 0, 9, 9)), 0)
		}
		lists := [][]api.Event{}
		copies := [][]api.Event{}
		keep := func(list []api.Event) {
			lists, copies = append(lists, list), append(copies, slices.Clone(list))
		}
		for n := range uint32(4) {
			one, _ := w.Update(1, n, n, at(5, 5), n)
			keep(one)
			two, _ := w.Update(1, n, n, at(-5, 20), n)
			keep(two)
			three, _ := w.Update(1, n, n, at(5, 5), n)
			keep(three)
			keep(w.Unfence(1, n))
			four, _ := w.Fence(fenceOf(1, 1, rectOf(0, 0, 9, 9)), n)
			keep(four)
			keep(w.Forget(1, n))
		}
		for i, list := range lists {
			if !slices.Equal(list, copies[i]) || len(list) == 0 {
				t.Errorf("list %d: %v, was %v", i, list, copies[i])
			}
			spoilEvents(list)
			for k := i + 1; k < len(lists); k++ {
				if !slices.Equal(lists[k], copies[k]) {
					t.Errorf("list %d has changed with list %d", k, i)
				}
			}
		}
	}
}

// roomy is a shape of lists with spare room behind them, and a way to ask whether any of it has changed.
func roomy(s api.Shape) (api.Shape, func() bool) {
	spare := func(list []api.Point) []api.Point {
		return append(slices.Clone(list), of(5, 5, 6, 6, 7, 7)...)[:len(list)]
	}
	s.Verts = spare(s.Verts)
	holes := append(slices.Clone(s.Holes), of(1, 2), of(3, 4))[:len(s.Holes)]
	for i := range holes {
		holes[i] = spare(holes[i])
	}
	s.Holes = holes
	all := func() [][]api.Point {
		var list [][]api.Point
		for _, h := range append(slices.Clone(holes[:cap(holes)]), s.Verts) {
			list = append(list, slices.Clone(h[:cap(h)]))
		}
		return list
	}
	was := all()
	return s, func() bool { return slices.EqualFunc(was, all(), slices.Equal) }
}

// P0.1: what Fence is handed is not changed, spare room included, and not kept.
func TestFenceIsNotKept(t *testing.T) {
	for _, right := range []api.Shape{rectOf(0, 0, 9, 9), discOf(5, 5, 3), corridorOf(2, 0, 0, 9, 9), holed(), polyOf(square(0, 0, 9))} {
		if right.Kind != api.Poly {
			right.Holes = nil
		}
		ws, p := made(t, 2, 2, going(1, at(5, 5), 0))
		s, same := roomy(right)
		both(t, "Fence", ws, p, fencing(fenceOf(4, 2, s), 1))
		wantTrue(t, "what was handed in", same(), true)
		wantErr(t, "again", both(t, "Fence", ws, p, fencing(fenceOf(4, 2, s), 1)).err, api.ErrThere)
		wantTrue(t, "what was refused", same(), true)
		spoilShape(s)
		wantWorlds(t, "spoilt behind it", ws, p)
		both(t, "goes on", ws, p, going(1, at(77, 77), 2))
		both(t, "goes on", ws, p, going(2, at(1, 1), 3))
		wantWorlds(t, "goes on", ws, p)
	}
}

// P0.1: what From is handed is not changed, and not kept, whether it is refused or not.
func TestFromIsNotKept(t *testing.T) {
	for _, room := range []int{3, 4} {
		for i, c := range configs(room, room) {
			s, was := standing(), standing()
			s.objects = append(s.objects, api.Object{Id: 8, In: []uint32{8}})[:4]
			s.fences = append(s.fences, fenceOf(8, 8, discOf(8, 8, 8)))[:4]
			s.dues = append(s.dues, api.Due{At: 8})[:3]
			w, e := From(c, s.objects, s.fences, s.dues)
			wantTrue(t, "From", (e == api.OK) == (room == 4), true)
			wantTrue(t, "objects", sameObjects(s.objects, was.objects) && s.objects[:5][4].In[0] == 8, true)
			wantTrue(t, "fences", sameFences(s.fences, was.fences) && sameFence(s.fences[:5][4], fenceOf(8, 8, discOf(8, 8, 8))), true)
			wantTrue(t, "dues", slices.Equal(s.dues, was.dues) && s.dues[:4][3] == api.Due{At: 8}, true)
			if e == api.OK {
				spoilObjects(s.objects)
				spoilFences(s.fences)
				spoilDues(s.dues)
				wantWorld(t, fmt.Sprint("world ", i), w, &plain{room: 4, fenceRoom: 4, objects: was.objects, fences: was.fences, dues: was.dues})
			}
		}
	}
}

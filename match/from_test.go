package match

import (
	"fmt"
	"math"
	"slices"
	"testing"

	"paddock/api"
)

// stand is what a world is told to stand as.
type stand struct {
	objects []api.Object
	fences  []api.Fence
	dues    []api.Due
}

// standing is one with four objects, of which one is in no fence and one in two, four fences, one of which never tells a stay, and three stays, of which one of the object 4 was told already.
func standing() stand {
	return stand{
		objects: []api.Object{
			{Id: 0, Number: 9, Time: topmost, Place: at(5, 5), Speed: 2.5, In: []uint32{3, 7}},
			{Id: 4, Number: topmost, Time: 0, Place: at(10, 10), Speed: 0, In: []uint32{3}},
			{Id: 5, Number: 0, Time: 7, Place: at(-bound, bound), Speed: 1e300},
			{Id: topmost, Number: 1, Time: 1, Place: at(21, 24), Speed: math.SmallestNonzeroFloat64, In: []uint32{topmost}},
		},
		fences: []api.Fence{
			fenceOf(0, 0, polyOf(square(-20, -20, 9), square(-18, -18, 3))),
			fenceOf(3, 5, rectOf(0, 0, 10, 10)),
			fenceOf(7, 1, corridorOf(1, 0, 6, 10, 6)),
			fenceOf(topmost, topmost, discOf(18, 20, 5)),
		},
		dues: []api.Due{{At: 0, Object: 0, Fence: 3}, {At: 8, Object: 0, Fence: 7}, {At: 8, Object: topmost, Fence: topmost}},
	}
}

func (s stand) copied() stand {
	return stand{copiedObjects(s.objects), copiedFences(s.fences), slices.Clone(s.dues)}
}

// worldsOf are worlds that stand so, with so much room; and what the words say of them.
func worldsOf(t *testing.T, what string, objects, fences int, s stand) (worlds, *plain) {
	t.Helper()
	var ws worlds
	for _, c := range configs(objects, fences) {
		w, e := From(c, s.objects, s.fences, s.dues)
		if w == nil || e != api.OK {
			t.Fatalf("%s: From: %v, %d", what, w, e)
		}
		ws = append(ws, w)
	}
	s = s.copied()
	return ws, &plain{room: objects, fenceRoom: fences, objects: s.objects, fences: s.fences, dues: s.dues}
}

// P19.2: a world stands as it is told, with just as much room, with more, and with none of some kind.
func TestFrom(t *testing.T) {
	for _, room := range [][2]int{{4, 4}, {5, 6}, {64, 64}} {
		ws, p := worldsOf(t, "all", room[0], room[1], standing())
		wantWorlds(t, fmt.Sprint("room for ", room), ws, p)
	}
	ws, p := worldsOf(t, "none", 1, 1, stand{[]api.Object{}, nil, []api.Due{}})
	wantWorlds(t, "none", ws, p)
	ws, p = worldsOf(t, "no dues", 4, 4, stand{objects: standing().objects, fences: standing().fences})
	wantWorlds(t, "no dues", ws, p)
	ws, p = worldsOf(t, "fences alone", 1, 4, stand{fences: standing().fences})
	wantWorlds(t, "fences alone", ws, p)
	ws, p = worldsOf(t, "objects alone", 1, 1, stand{objects: standing().objects[2:3]})
	wantWorlds(t, "objects alone", ws, p)
}

// P19.2: an In that is empty is one that is not there, and a nought with a sign is from 0 on; a stay may be due at any time.
func TestFromWhatMayBe(t *testing.T) {
	for what, turn := range map[string]func(s *stand){
		"an empty In":           func(s *stand) { s.objects[2].In = []uint32{} },
		"a signed nought":       func(s *stand) { s.objects[0].Speed = math.Copysign(0, -1) },
		"the greatest speed":    func(s *stand) { s.objects[0].Speed = math.MaxFloat64 },
		"another number":        func(s *stand) { s.objects[0].Number = 0 },
		"another time":          func(s *stand) { s.objects[0].Time = 3 },
		"another place within":  func(s *stand) { s.objects[1].Place = at(0, 0) },
		"a due less":            func(s *stand) { s.dues = s.dues[1:] },
		"one that is late":      func(s *stand) { s.dues[2].At = topmost },
		"all at once":           func(s *stand) { s.dues[0].At = 8 },
		"a stay not told yet":   func(s *stand) { s.dues = slices.Insert(s.dues, 2, api.Due{At: 8, Object: 4, Fence: 3}) },
		"another dwell":         func(s *stand) { s.fences[1].Dwell = 1 },
		"no dwell, told before": func(s *stand) { s.fences[1].Dwell, s.dues = 0, s.dues[1:] },
		"a fence less":          func(s *stand) { s.fences = s.fences[1:] },
		"a fence round nobody":  func(s *stand) { s.fences[0].Shape = rectOf(11, 11, 19, 19) },
		"an object less":        func(s *stand) { s.objects = slices.Delete(s.objects, 1, 3) },
		"another shape":         func(s *stand) { s.fences[3].Shape = rectOf(21, 24, 21, 24) },
	} {
		s := standing()
		turn(&s)
		ws, p := worldsOf(t, what, 4, 4, s)
		wantWorlds(t, what, ws, p)
	}
}

// wrongStands are the changes of one thing each by which a world can't stand so any more.
func wrongStands() map[string]func(s *stand) {
	list := map[string]func(s *stand){
		"objects fall":           func(s *stand) { s.objects[1], s.objects[2] = s.objects[2], s.objects[1] },
		"the last object first":  func(s *stand) { s.objects = append(s.objects[3:], s.objects[:3]...) },
		"an object twice":        func(s *stand) { s.objects[2].Id = 4 },
		"the same object again":  func(s *stand) { s.objects[2] = s.objects[1] },
		"an object too many":     func(s *stand) { s.objects = slices.Insert(s.objects, 3, api.Object{Id: 6, Place: at(-50, 0)}) },
		"fences fall":            func(s *stand) { s.fences[1], s.fences[2] = s.fences[2], s.fences[1] },
		"the last fence first":   func(s *stand) { s.fences = append(s.fences[3:], s.fences[:3]...) },
		"a fence twice":          func(s *stand) { s.fences[0].Id = 3 },
		"the same fence again":   func(s *stand) { s.fences[2] = s.fences[1] },
		"a fence too many":       func(s *stand) { s.fences = slices.Insert(s.fences, 3, fenceOf(8, 0, rectOf(80, 80, 81, 81))) },
		"another shape":          func(s *stand) { s.fences[3].Shape = discOf(18, 20, 4) },
		"a shape round one more": func(s *stand) { s.fences[0].Shape = rectOf(4, 4, 5, 5) },
		"no In":                  func(s *stand) { s.objects[0].In = nil },
		"In lacks the first":     func(s *stand) { s.objects[0].In = []uint32{7} },
		"In lacks the last":      func(s *stand) { s.objects[0].In = []uint32{3} },
		"In has one more":        func(s *stand) { s.objects[1].In = []uint32{3, 7} },
		"In has one ahead":       func(s *stand) { s.objects[1].In = []uint32{0, 3} },
		"In has one for another": func(s *stand) { s.objects[1].In = []uint32{7} },
		"In has none there is":   func(s *stand) { s.objects[1].In = []uint32{3, 8} },
		"In of who is in none":   func(s *stand) { s.objects[2].In = []uint32{0} },
		"In falls":               func(s *stand) { s.objects[0].In = []uint32{7, 3} },
		"In has one twice":       func(s *stand) { s.objects[0].In = []uint32{3, 3, 7} },
		"In has the last twice":  func(s *stand) { s.objects[1].In = []uint32{3, 3} },
		"a fence less":           func(s *stand) { s.fences = slices.Delete(s.fences, 2, 3) },
		"another place":          func(s *stand) { s.objects[1].Place = at(11, 10) },
		"a place in one more":    func(s *stand) { s.objects[1].Place = at(10, 7) },
		"a due's object away":    func(s *stand) { s.objects = s.objects[:3] },
		"a due of no object":     func(s *stand) { s.dues[1].Object = 1 },
		"a due of no fence":      func(s *stand) { s.dues[2].Fence = 8 },
		"a due of neither":       func(s *stand) { s.dues = append(s.dues, api.Due{At: 9, Object: 99, Fence: 99}) },
		"not in the fence":       func(s *stand) { s.dues[1].Object = 4 },
		"in no fence":            func(s *stand) { s.dues[1].Object = 5 },
		"no dwell":               func(s *stand) { s.fences[1].Dwell = 0 },
		"no dwell of the last":   func(s *stand) { s.fences[3].Dwell = 0 },
		"dues twice":             func(s *stand) { s.dues = slices.Insert(s.dues, 1, s.dues[0]) },
		"dues twice, later":      func(s *stand) { s.dues = append(s.dues, api.Due{At: 99, Object: 0, Fence: 3}) },
		"dues fall in time":      func(s *stand) { s.dues[0].At = 9 },
		"dues fall in object":    func(s *stand) { s.dues[1], s.dues[2] = s.dues[2], s.dues[1] },
		"dues fall in fence":     func(s *stand) { s.dues[1].Fence, s.dues[0] = 3, api.Due{At: 8, Object: 0, Fence: 7} },
	}
	for _, q := range offLattice() {
		list[fmt.Sprint("at ", q)] = func(s *stand) { s.objects[2].Place = q }
	}
	for _, v := range []float64{-1, -math.SmallestNonzeroFloat64, -math.MaxFloat64, math.Inf(1), math.Inf(-1), math.NaN()} {
		list[fmt.Sprint("the speed ", v)] = func(s *stand) { s.objects[1].Speed = v }
	}
	for _, s := range wrongShapes() {
		list[fmt.Sprint("the shape ", s)] = func(n *stand) { n.fences[0].Shape = s }
	}
	return list
}

// P19.2: each change of one thing, by which it can't stand so, is refused; behind a Config that may not be.
func TestFromRefused(t *testing.T) {
	for what, turn := range wrongStands() {
		s := standing()
		turn(&s)
		for _, c := range configs(4, 4) {
			w, e := From(c, s.objects, s.fences, s.dues)
			wantErr(t, what, e, api.ErrNews)
			wantTrue(t, what+": none", w == nil, true)
		}
		for _, c := range []api.Config{{}, {Objects: 0, Fences: 4, Cell: 1}, {Objects: 4, Fences: 65, Cell: 1}, {Objects: 4, Fences: 4, Index: 3, Cell: 1}, {Objects: 4, Fences: 4}} {
			w, e := From(c, s.objects, s.fences, s.dues)
			wantErr(t, what+": no Config", e, api.ErrArg)
			wantTrue(t, what+": none", w == nil, true)
		}
	}
}

// P19.2: with room for one less of either kind what stood is refused; so are long lists.
func TestFromTooMany(t *testing.T) {
	for _, room := range [][2]int{{3, 4}, {4, 3}, {1, 64}, {64, 1}} {
		for _, c := range configs(room[0], room[1]) {
			s := standing()
			w, e := From(c, s.objects, s.fences, s.dues)
			wantTrue(t, fmt.Sprint("room for ", room), w == nil && e == api.ErrNews, true)
		}
	}
	objects, fences := make([]api.Object, 70), make([]api.Fence, 70)
	for i := range objects {
		objects[i], fences[i] = api.Object{Id: uint32(i)}, fenceOf(uint32(i), 0, rectOf(5, 5, 6, 6))
	}
	for n := 60; n <= 70; n++ {
		for _, c := range configs(64, 64) {
			_, e := From(c, objects[:n], fences[:64], nil)
			wantTrue(t, fmt.Sprint(n, " objects"), (e == api.OK) == (n <= 64), true)
			_, e = From(c, objects[:64], fences[:n], nil)
			wantTrue(t, fmt.Sprint(n, " fences"), (e == api.OK) == (n <= 64), true)
		}
	}
}

// P19.2: as many stays as there may be, of all objects in all fences.
func TestFromAllDues(t *testing.T) {
	s := stand{}
	for i := range uint32(64) {
		s.fences = append(s.fences, fenceOf(i, 1, rectOf(0, 0, 9, 9)))
	}
	for i := range uint32(64) {
		o := api.Object{Id: i, Place: at(3, 3)}
		for _, f := range s.fences {
			o.In = append(o.In, f.Id)
			s.dues = append(s.dues, api.Due{At: 7, Object: i, Fence: f.Id})
		}
		s.objects = append(s.objects, o)
	}
	ws, p := worldsOf(t, "all dues", 64, 64, s)
	for n := range len(s.dues) {
		wantTrue(t, fmt.Sprint("due ", n), both(t, "Due", ws, p, taking(7)).ok, true)
	}
	wantWorlds(t, "all told", ws, p)
	s.dues = append(s.dues, api.Due{At: 8, Object: 1, Fence: 1})
	w, e := From(configs(64, 64)[0], s.objects, s.fences, s.dues)
	wantTrue(t, "one more", w == nil && e == api.ErrNews, true)
}

// P19.12: a world that From makes goes on as the one that stood so does.
func TestFromGoesOn(t *testing.T) {
	for _, list := range [][]call{
		{taking(0), taking(8), taking(8), taking(8)},
		{taking(8), going(0, at(50, 50), 9), taking(topmost), going(0, at(5, 5), 10), taking(11), taking(15)},
		{updating(0, 1, 3, at(18, 20), 1), updating(5, 1, 8, at(bound, -bound), 1), updating(topmost, 9, 9, at(21, 24), 1), taking(topmost)},
		{forgetting(0, 1), forgetting(4, 1), forgetting(5, 1), forgetting(topmost, 1), taking(topmost)},
		{unfencing(3, 1), taking(topmost), unfencing(topmost, 1), unfencing(7, 1), unfencing(0, 1), taking(topmost)},
		{fencing(fenceOf(1, 2, rectOf(0, 0, 30, 30)), 3), taking(5), going(8, at(0, 0), 9), going(9, at(0, 0), 9), fencing(fenceOf(3, 0, rectOf(0, 0, 1, 1)), 9)},
	} {
		ws, p := worldsOf(t, "goes on", 5, 5, standing())
		for _, c := range list {
			both(t, "goes on", ws, p, c)
			wantWorlds(t, fmt.Sprint("behind ", c), ws, p)
		}
	}
}

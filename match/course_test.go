package match

import (
	"fmt"
	"math/rand"
	"slices"
	"testing"

	"paddock/api"
)

// fewCalls are calls of each kind, over two objects and two fences.
func fewCalls() []call {
	return []call{
		fencing(fenceOf(5, 2, rectOf(0, 0, 9, 9)), 1), fencing(fenceOf(3, 0, discOf(9, 9, 3)), 2), unfencing(5, 3),
		going(1, at(8, 8), 4), going(1, at(20, 20), 5), going(2, at(0, 0), 6), forgetting(1, 7), taking(6), going(2, at(0, 20), 9),
	}
}

// everyCourse does all courses of so many calls, each in new worlds in which some were done already.
func everyCourse(t *testing.T, objects, fences int, start, few []call, length int) {
	t.Helper()
	courses := 1
	for range length {
		courses *= len(few)
	}
	for number := range courses {
		what := fmt.Sprintf("room for %d and %d, %d calls, course %d", objects, fences, length, number)
		ws, p := made(t, objects, fences, start...)
		for range length {
			both(t, what, ws, p, few[number%len(few)])
			number /= len(few)
		}
		wantWorlds(t, what, ws, p)
		if t.Failed() {
			return
		}
	}
}

// P19.3 to P19.14: every course of up to three calls, with room for one and two, held against a plain world.
func TestEveryCourse(t *testing.T) {
	for objects := 1; objects <= 2; objects++ {
		for fences := 1; fences <= 2; fences++ {
			for length := range 4 {
				everyCourse(t, objects, fences, nil, fewCalls(), length)
			}
		}
	}
}

// P19.3 to P19.14: every course of three calls behind some that put objects into fences.
func TestEveryCourseOfFilled(t *testing.T) {
	start := []call{fewCalls()[0], fewCalls()[1], going(1, at(8, 8), 1), going(2, at(0, 0), 2)}
	everyCourse(t, 2, 2, start, fewCalls(), 3)
}

// life is what befell an object and a fence since it entered.
type life struct {
	in     bool
	stayed bool
}

// history is what befell each object in each fence, as the events tell it.
type history map[[2]uint32]life

// told goes on with an event, and fails, unless it may stand there (P19.13).
func (h history) told(t *testing.T, what string, e api.Event) {
	t.Helper()
	key := [2]uint32{e.Object, e.Fence}
	l := h[key]
	ok := l.in
	switch e.Kind {
	case api.Enter:
		ok = !l.in
		l = life{in: true}
	case api.Leave:
		l = life{}
	case api.Pass:
		ok = !l.in
	case api.Stay:
		ok = l.in && !l.stayed
		l.stayed = true
	default:
		ok = false
	}
	if !ok {
		t.Errorf("%s: %v stands where %v", what, e, h[key])
	}
	h[key] = l
}

// wantHistory fails, unless who is in a fence is who entered it and did not leave.
func wantHistory(t *testing.T, what string, h history, p *plain) {
	t.Helper()
	count := 0
	for _, l := range h {
		if l.in {
			count++
		}
	}
	for _, o := range p.objects {
		for _, f := range o.In {
			count--
			if !h[[2]uint32{o.Id, f}].in {
				t.Errorf("%s: %d is in %d", what, o.Id, f)
			}
		}
	}
	if count != 0 {
		t.Errorf("%s: %d are in a fence no more that they did not leave", what, count)
	}
}

// anyPlace is mostly a place near the middle; at times one at the lattice's edge, or off it.
func anyPlace(random *rand.Rand) api.Point {
	switch random.Intn(25) {
	case 0:
		list := offLattice()
		return list[random.Intn(len(list))]
	case 1:
		return at([]int32{-bound, 0, bound}[random.Intn(3)], []int32{-bound, bound}[random.Intn(2)])
	}
	return at(random.Int31n(26)-8, random.Int31n(26)-8)
}

// anyShape is a shape of any kind, mostly one that may be, near the middle or as great as the lattice.
func anyShape(random *rand.Rand) api.Shape {
	x, y, n := random.Int31n(20)-8, random.Int31n(20)-8, random.Int31n(8)
	switch random.Intn(14) {
	case 0:
		list := wrongShapes()
		return list[random.Intn(len(list))]
	case 1:
		return rectOf(-bound, -bound, bound, y)
	case 2:
		return corridorOf(n, x, y, bound, bound-random.Int31n(9))
	case 3, 4, 5:
		return rectOf(x, y, x+n, y+random.Int31n(9))
	case 6, 7, 8:
		return discOf(x, y, n)
	case 9, 10:
		return corridorOf(random.Int31n(3), x, y, x+n+1, y-n, x+9, y+9)
	case 11:
		return polyOf(of(x, y, x+n+1, y, x, y+5))
	}
	return polyOf(square(x, y, n+4), square(x+1, y+1, n+1))
}

// anyNumber is mostly one of a few small ones; at times one at the end.
func anyNumber(random *rand.Rand, few int) uint32 {
	if random.Intn(12) == 0 {
		return topmost - random.Uint32()%2
	}
	return random.Uint32() % uint32(few)
}

// anyCall is a call of any kind, at a clock; most of them move something.
func anyCall(random *rand.Rand, few int, clock uint32) call {
	object, fence := anyNumber(random, few), anyNumber(random, few)
	switch random.Intn(20) {
	case 0:
		return forgetting(object, clock)
	case 1:
		return unfencing(fence, clock)
	case 2, 3:
		return fencing(fenceOf(fence, random.Uint32()%6, anyShape(random)), clock)
	case 4:
		return fencing(fenceOf(fence, topmost-random.Uint32()%9, anyShape(random)), clock)
	case 5, 6, 7, 8:
		return taking(clock)
	}
	return updating(object, random.Uint32()%99, random.Uint32()>>random.Intn(32), anyPlace(random), clock)
}

// anyClock goes on from a clock: mostly by little, at times back, or to the end.
func anyClock(random *rand.Rand, clock uint32) uint32 {
	switch random.Intn(40) {
	case 0:
		return random.Uint32() % 9
	case 1:
		return topmost - random.Uint32()%9
	}
	return clock + random.Uint32()%3
}

// again are the worlds that From makes of what each world tells, with the same Configs in turn, or each with the next one's (P19.12).
func again(t *testing.T, what string, ws worlds, p *plain, turned int) worlds {
	t.Helper()
	var list worlds
	cs := configs(p.room, p.fenceRoom)
	for i, w := range ws {
		v, e := From(cs[(i+turned)%len(cs)], w.Objects(), w.Fences(), w.Dues())
		if v == nil || e != api.OK {
			t.Fatalf("%s: From: %d", what, e)
		}
		list = append(list, v)
	}
	return list
}

// P19.3 to P19.14: any course of calls, with much room and little, in worlds of each index, held against a plain world; now and then the worlds give way to those that From makes of what they tell.
func TestAnyCourse(t *testing.T) {
	random := rand.New(rand.NewSource(19))
	answers, kinds := map[api.Errno]int{}, map[api.EventKind]int{}
	for _, room := range [][3]int{{1, 1, 2}, {1, 5, 6}, {5, 1, 6}, {3, 3, 5}, {6, 6, 7}, {12, 12, 14}} {
		ws, p := made(t, room[0], room[1])
		h, clock := history{}, uint32(0)
		for n := range 1500 {
			clock = anyClock(random, clock)
			c := anyCall(random, room[2], clock)
			what := fmt.Sprintf("room for %v, call %d: %v", room, n, c)
			a := both(t, what, ws, p, c)
			answers[a.err]++
			for _, e := range a.events {
				kinds[e.Kind]++
				h.told(t, what, e)
			}
			if c.kind == callUnfence {
				for key := range h {
					if key[1] == c.fence.Id && !h[key].in {
						delete(h, key)
					}
				}
			}
			wantHistory(t, what, h, p)
			if n%5 == 0 {
				wantWorlds(t, what, ws, p)
			}
			if n%50 == 0 {
				ws = again(t, what, ws, p, n/50)
			}
			if t.Failed() {
				return
			}
		}
	}
	for _, e := range []api.Errno{api.OK, api.ErrFull, api.ErrThere, api.ErrPlace, api.ErrKind, api.ErrHole} {
		wantTrue(t, fmt.Sprint("answered ", e, ": ", answers[e]), answers[e] >= 3, true)
	}
	for k := api.Enter; k <= api.Stay; k++ {
		wantTrue(t, fmt.Sprint("events of the kind ", k, ": ", kinds[k]), kinds[k] >= 200, true)
	}
}

// P19.3 to P19.14: a full world of 64 objects and 64 fences, in which much moves.
func TestFullWorld(t *testing.T) {
	random := rand.New(rand.NewSource(64))
	ws, p := made(t, 64, 64)
	most := 0
	for n := range 1200 {
		c := updating(random.Uint32()%66, uint32(n), uint32(n), anyPlace(random), uint32(n))
		if n < 80 || n%9 == 0 {
			c = fencing(fenceOf(random.Uint32()%70, random.Uint32()%4*9, anyShape(random)), uint32(n))
		}
		most = max(most, len(both(t, "Update", ws, p, c).events))
		if n%3 == 0 {
			both(t, "Due", ws, p, taking(uint32(n)))
		}
		if n%100 == 99 {
			wantWorlds(t, fmt.Sprint("call ", n), ws, p)
		}
		if t.Failed() {
			return
		}
	}
	wantTrue(t, fmt.Sprint("the most events of a call: ", most), most >= 20, true)
	ws = again(t, "at the end", ws, p, 1)
	wantWorlds(t, "at the end", ws, p)
}

// P19.12: whatever was there ahead of it, worlds that tell the same answer the same.
func TestPastShowsNowhere(t *testing.T) {
	random := rand.New(rand.NewSource(1912))
	for n := range 60 {
		ws, p := made(t, 5, 5)
		for range random.Intn(60) {
			both(t, "ahead of it", ws, p, anyCall(random, 6, random.Uint32()%9))
		}
		for _, o := range slices.Clone(p.objects) {
			both(t, "emptied", ws, p, forgetting(o.Id, 9))
		}
		for _, f := range slices.Clone(p.fences) {
			both(t, "emptied", ws, p, unfencing(f.Id, 9))
		}
		wantWorlds(t, "emptied", ws, &plain{})
		fresh, q := made(t, 5, 5)
		for range 30 {
			c := anyCall(random, 6, random.Uint32()%9)
			both(t, "used", ws, p, c)
			both(t, "fresh", fresh, q, c)
		}
		wantWorlds(t, fmt.Sprint("past ", n), ws, q)
	}
}

// P0.1: two worlds have nothing in common, whatever is done to one of them.
func TestApart(t *testing.T) {
	random := rand.New(rand.NewSource(6))
	for range 10 {
		a, p := made(t, 1+random.Intn(6), 1+random.Intn(6))
		b, q := made(t, 1+random.Intn(6), 1+random.Intn(6))
		for n := range 100 {
			if random.Intn(2) == 0 {
				both(t, "the one", a, p, anyCall(random, 6, random.Uint32()%20))
			} else {
				both(t, "the other", b, q, anyCall(random, 6, random.Uint32()%20))
			}
			if n%10 == 9 {
				wantWorlds(t, "the one", a, p)
				wantWorlds(t, "the other", b, q)
			}
			if t.Failed() {
				return
			}
		}
	}
}

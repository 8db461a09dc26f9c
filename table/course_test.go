package table

import (
	"fmt"
	"math/rand"
	"slices"
	"testing"

	"paddock/api"
)

// fewCalls are calls of each kind, over a few numbers, those at the ends among them.
func fewCalls() []call[string] {
	return []call[string]{
		{kind: callPut, id: 1, v: "a"}, {kind: callPut, id: 1, v: "b"}, {kind: callPut, id: 0, v: "c"}, {kind: callPut, id: 2, v: "d"}, {kind: callPut, id: topmost, v: "e"},
		{kind: callDel, id: 1}, {kind: callDel, id: 0}, {kind: callDel, id: topmost},
		{kind: callGet, id: 1}, {kind: callNext, id: 1}, {kind: callNext, id: 0}, {kind: callNext, id: topmost, all: true},
	}
}

// everyCourse does all courses of so many calls, and fails, unless each call answers by the words, and what is there behind them all is what they say.
func everyCourse(t *testing.T, room int, few []call[string], length int) {
	t.Helper()
	courses := 1
	for range length {
		courses *= len(few)
	}
	for number := range courses {
		x, p := made[string](t, room), &plain[string]{room: room}
		what := fmt.Sprintf("room for %d, %d calls, course %d", room, length, number)
		left := number
		for range length {
			both(t, what, x, p, few[left%len(few)])
			left /= len(few)
		}
		wantTable(t, what, x, room, p.list...)
		if t.Failed() {
			return
		}
	}
}

// P17.2, P17.3: every course of a few calls, with room for none to three, held against a plain list.
func TestEveryCourse(t *testing.T) {
	for room := range 4 {
		for length := range 5 {
			everyCourse(t, room, fewCalls(), length)
		}
	}
}

// P17.2, P17.3: every course of seven calls that put in and take out.
func TestEveryLongerCourse(t *testing.T) {
	few := []call[string]{
		{kind: callPut, id: 5, v: "a"}, {kind: callPut, id: 4, v: "b"}, {kind: callPut, id: 6, v: "c"}, {kind: callDel, id: 5}, {kind: callDel, id: 4},
	}
	everyCourse(t, 2, few, 7)
}

// anyCall is a call of any kind, with any number, and with a value.
func anyCall[T any](random *rand.Rand, v T) call[T] {
	c := call[T]{kind: random.Intn(calls), id: random.Uint32() % 24, all: random.Intn(4) == 0}
	switch random.Intn(20) {
	case 0:
		c.id = topmost
	case 1:
		c.id = random.Uint32()
	}
	if random.Intn(3) == 0 {
		c.kind = callPut
	}
	if c.kind == callPut {
		c.v = v
	}
	return c
}

// anyCourse is many calls to tables of values of a type, against the plain list.
func anyCourse[T comparable](t *testing.T, seed int64, value func(int) T) {
	t.Helper()
	random := rand.New(rand.NewSource(seed))
	answers, most := map[api.Errno]int{}, 0
	for _, room := range []int{0, 1, 2, 8, 20, 65536} {
		x, p := made[T](t, room), &plain[T]{room: room}
		for n := range 1200 {
			c := anyCall(random, value(n+1))
			what := fmt.Sprintf("room for %d, call %d", room, n)
			a := both(t, what, x, p, c)
			wantTable(t, fmt.Sprint(what, ": ", c), x, room, p.list...)
			if t.Failed() {
				return
			}
			answers[a.err]++
			most = max(most, len(p.list))
		}
	}
	if answers[api.OK] < 100 || answers[api.ErrFull] < 100 || most < 20 {
		t.Errorf("answered: %v, the most at one time: %d", answers, most)
	}
}

// thing is a struct of several fields.
type thing struct {
	name  string
	place api.Point
	tags  [2]uint8
}

// P17.2, P17.3: any course of calls, with values of several types.
func TestAnyCourse(t *testing.T) {
	anyCourse(t, 1, func(n int) int { return -n })
	anyCourse(t, 2, func(n int) uint8 { return uint8(n) })
	anyCourse(t, 3, func(n int) float64 { return float64(n) / 7 })
	anyCourse(t, 4, func(n int) bool { return n%3 > 0 })
	anyCourse(t, 5, func(n int) string { return fmt.Sprint("mare ", n) })
	anyCourse(t, 6, func(n int) thing {
		return thing{fmt.Sprint(n), api.Point{X: int32(n), Y: -1}, [2]uint8{1, uint8(n)}}
	})
	anyCourse(t, 7, func(n int) *thing { return &thing{name: fmt.Sprint(n)} })
	anyCourse(t, 8, func(n int) any { return []any{n, fmt.Sprint(n), nil, thing{}}[n%4] })
	anyCourse(t, 9, func(int) struct{} { return struct{}{} })
	anyCourse(t, 10, func(n int) error { return []error{nil, api.ErrFull, api.Errno(n)}[n%3] })
}

// P17.2: a list is kept as it is handed in: all that told it share what it shares.
func TestListsAreShared(t *testing.T) {
	x := made[[]int](t, 2)
	room := []int{1, 2, 3}
	put(t, x, pair[[]int]{4, room[:2]}, pair[[]int]{5, nil})
	all := x.All()
	room[0] = 9
	v, ok := x.Get(4)
	if !ok || !slices.Equal(v, []int{9, 2}) || cap(v) != 3 {
		t.Errorf("Get: %v, %v", v, ok)
	}
	v[1] = 8
	if list := told(all); len(list) != 2 || !slices.Equal(list[0].v, []int{9, 8}) || list[1].v != nil {
		t.Errorf("All: %v", list)
	}
	if id, v, ok := x.Next(0, true); id != 4 || &v[0] != &room[0] || !ok {
		t.Errorf("Next: %d, %v, %v", id, v, ok)
	}
	if v, e := x.Put(4, nil); &v[0] != &room[0] || e != api.OK {
		t.Errorf("Put: %v, %d", v, e)
	}
	if v, ok := x.Del(4); v != nil || !ok {
		t.Errorf("Del of a nil list: %v, %v", v, ok)
	}
	if v, ok := x.Del(4); v != nil || ok {
		t.Errorf("Del of none: %v, %v", v, ok)
	}
	if !slices.Equal(room, []int{9, 8, 3}) {
		t.Errorf("what was handed in: %v", room)
	}
}

// P17.2: maps and functions, which can't be compared.
func TestNotCompared(t *testing.T) {
	names := made[map[string]int](t, 1)
	put(t, names, pair[map[string]int]{1, map[string]int{"mare": 1}})
	if v, e := names.Put(2, nil); v != nil || e != api.ErrFull {
		t.Errorf("a map more: %v, %d", v, e)
	}
	if v, ok := names.Del(1); !ok || v["mare"] != 1 {
		t.Errorf("a map: %v, %v", v, ok)
	}
	doings := made[func() int](t, 1)
	put(t, doings, pair[func() int]{7, func() int { return 7 }})
	if v, ok := doings.Get(7); !ok || v() != 7 {
		t.Error("a function")
	}
	if v, ok := doings.Get(8); ok || v != nil {
		t.Error("a function that is not there")
	}
}

// P17.2: a struct that is told is a copy: changing it, or the one that was handed in, changes nothing of the table.
func TestStructsAreCopies(t *testing.T) {
	in := thing{name: "a", tags: [2]uint8{1, 2}}
	x := made(t, 2, pair[thing]{1, in}, pair[thing]{2, in})
	in.tags[0] = 9
	want := thing{name: "a", tags: [2]uint8{1, 2}}
	v, _ := x.Get(1)
	v.tags[0] = 8
	for _, v := range x.All() {
		v.tags[1] = 7
	}
	wantTable(t, "behind changes of copies", x, 2, pair[thing]{1, want}, pair[thing]{2, want})
}

// P0.1: two tables have nothing in common, whatever is done to one of them.
func TestTablesApart(t *testing.T) {
	random := rand.New(rand.NewSource(6))
	for range 20 {
		room := random.Intn(12)
		a, b := made[int](t, room), made[int](t, room)
		p, q := &plain[int]{room: room}, &plain[int]{room: room}
		for n := range 200 {
			if random.Intn(2) == 0 {
				both(t, "the one", a, p, anyCall(random, n+1))
			} else {
				both(t, "the other", b, q, anyCall(random, -n-1))
			}
			wantTable(t, "the one", a, room, p.list...)
			wantTable(t, "the other", b, room, q.list...)
			if t.Failed() {
				return
			}
		}
	}
}

// setCall is a call to a set: to put a number in, to take it out, or to Join, Cut or Meet.
type setCall struct {
	add, del bool
	i        int
	doing    int
	itself   bool
}

// fewSetCalls are calls of each kind to a set with a bound.
func fewSetCalls(n int) []setCall {
	list := []setCall{{itself: true}, {doing: 1, itself: true}, {doing: 2, itself: true}, {}, {doing: 1}, {doing: 2}}
	for _, i := range []int{0, n - 1, n, 64} {
		list = append(list, setCall{add: true, i: i}, setCall{del: true, i: i})
	}
	return list
}

// bothSets does a call to a set, with another one, and says it by the words, and fails, unless both answer the same.
func bothSets(t *testing.T, what string, b, c *Bits, f, g flags, x setCall) {
	t.Helper()
	may := x.i >= 0 && x.i < len(f)
	switch {
	case x.add:
		wantTrue(t, what, b.Add(x.i), may && !f[x.i])
		if may {
			f[x.i] = true
		}
	case x.del:
		wantTrue(t, what, b.Del(x.i), may && f[x.i])
		if may {
			f[x.i] = false
		}
	case x.itself:
		wantErr(t, what, doings()[x.doing].do(b, b), api.OK)
		copy(f, doings()[x.doing].with(f, f))
	default:
		wantErr(t, what, doings()[x.doing].do(b, c), api.OK)
		copy(f, doings()[x.doing].with(f, g))
	}
}

// P17.4, P17.5: every course of three calls to a set, with another set beside it, held against a plain list of truths.
func TestEveryCourseOfSets(t *testing.T) {
	for _, n := range []int{0, 1, 2, 65, 130} {
		few := fewSetCalls(n)
		for number := range len(few) * len(few) * len(few) {
			odd := make([]int, 0, n)
			for i := 1; i < n; i += 2 {
				odd = append(odd, i)
			}
			b, c, f, g := setOf(t, n), setOf(t, n, odd...), flagsOf(n), flagsOf(n, odd...)
			what, left := fmt.Sprintf("to %d, course %d", n, number), number
			for range 3 {
				bothSets(t, what, b, c, f, g, few[left%len(few)])
				left /= len(few)
			}
			wantNumbers(t, what, b.All(), f.numbers()...)
			wantNumbers(t, "the other", c.All(), odd...)
			if t.Failed() {
				return
			}
		}
	}
}

// P17.4, P17.5: any course of calls to two sets beside one another.
func TestAnyCourseOfSets(t *testing.T) {
	random := rand.New(rand.NewSource(4))
	for _, n := range bounds() {
		b, c, f, g := setOf(t, n), setOf(t, n), flagsOf(n), flagsOf(n)
		for k := range 400 {
			x := setCall{add: true, i: random.Intn(n+4) - 2}
			switch random.Intn(5) {
			case 0, 1:
				x = setCall{del: true, i: random.Intn(n+4) - 2}
			case 2:
				x = setCall{doing: random.Intn(3), itself: random.Intn(9) == 0}
			}
			what := fmt.Sprintf("to %d, call %d: %v", n, k, x)
			bothSets(t, what, b, c, f, g, x)
			wantSet(t, what, b, f)
			wantSet(t, what+": the other", c, g)
			if t.Failed() {
				return
			}
			b, c, f, g = c, b, g, f
		}
	}
}

package table

import (
	"fmt"
	"math/rand"
	"slices"
	"testing"

	"paddock/api"
)

// The chapter's table of examples, row by row.
func TestExamples(t *testing.T) {
	if x, e := New[int](-1); x != nil || e != api.ErrArg {
		t.Errorf("New(-1): %v, %d", x, e)
	}
	x := made[string](t, 2)
	wantPut(t, "the first", x, 9, "a", "", api.OK)
	wantPut(t, "the second", x, 3, "b", "", api.OK)
	wantPut(t, "one more", x, 4, "c", "", api.ErrFull)
	wantPut(t, "another value", x, 9, "d", "a", api.OK)

	wantTold(t, "All", x.All(), pair[string]{3, "b"}, pair[string]{9, "d"})
	wantNext(t, x, 3, false, 9, "d", true)
	wantNext(t, x, 9, false, 0, "", false)
	wantNext(t, x, 9, true, 3, "b", true)

	v, ok := x.Del(3)
	wantValue(t, "Del(3)", v, ok, "b", true)
	v, ok = x.Del(3)
	wantValue(t, "Del(3) again", v, ok, "", false)
	wantCount(t, "Len", x.Len(), 1)
	wantCount(t, "Room", x.Room(), 2)

	wantPut(t, "no room", made[int](t, 0), 1, 1, 0, api.ErrFull)

	b := setOf(t, 70)
	for _, c := range []struct {
		i    int
		want bool
	}{{69, true}, {70, false}, {-1, false}, {69, false}, {2, true}} {
		wantTrue(t, fmt.Sprint("Add ", c.i), b.Add(c.i), c.want)
	}
	wantCount(t, "Count", b.Count(), 2)
	for from, want := range map[int]int{-5: 2, 3: 69, 70: -1} {
		wantCount(t, fmt.Sprint("Least ", from), b.Least(from), want)
	}
	for from, want := range map[int]int{0: 0, 2: 3, 69: -1} {
		wantCount(t, fmt.Sprint("Free ", from), b.Free(from), want)
	}
	wantErr(t, "Join with one to 71", b.Join(setOf(t, 71)), api.ErrArg)
	wantErr(t, "Join with none", b.Join(nil), api.ErrNil)
}

// wantNext fails, unless Next answers these.
func wantNext[T comparable](t *testing.T, x *Table[T], after uint32, all bool, id uint32, v T, ok bool) {
	t.Helper()
	got, w, there := x.Next(after, all)
	if got != id || w != v || there != ok {
		t.Errorf("Next(%d, %v): %d, %v, %v, want %d, %v, %v", after, all, got, w, there, id, v, ok)
	}
}

// P17.1: which rooms there may be.
func TestNew(t *testing.T) {
	if api.MaxBits != 65536 {
		t.Fatalf("MaxBits: %d", api.MaxBits)
	}
	for _, room := range []int{least, -65536, -2, -1, 65537, 65538, 1 << 31, 1<<32 + 1, greatest} {
		if x, e := New[int](room); x != nil || e != api.ErrArg {
			t.Errorf("New(%d): %v, %d, want ErrArg", room, x, e)
		}
		if x, e := New[[]string](room); x != nil || e != api.ErrArg {
			t.Errorf("New(%d) of lists: %v, %d, want ErrArg", room, x, e)
		}
	}
	for _, room := range []int{0, 1, 2, 64, 65535, 65536} {
		what := fmt.Sprint("new, with room for ", room)
		wantTable(t, what, made[string](t, room), room)
		wantTable(t, what, made[struct{}](t, room), room)
	}
}

// P0.1: tables that are not there, and those that New did not make, answer nothing in every call, and take nothing.
func TestAbsent(t *testing.T) {
	refused, _ := New[string](-1)
	for what, x := range map[string]*Table[string]{"nil": nil, "refused": refused, "zero": {}, "new": new(Table[string])} {
		for range 2 {
			for _, id := range []uint32{0, 1, topmost} {
				wantPut(t, what, x, id, "x", "", api.ErrNil)
				v, ok := x.Get(id)
				wantValue(t, what+": Get", v, ok, "", false)
				v, ok = x.Del(id)
				wantValue(t, what+": Del", v, ok, "", false)
				wantNext(t, x, id, false, 0, "", false)
				wantNext(t, x, id, true, 0, "", false)
			}
			wantCount(t, what+": Len", x.Len(), 0)
			wantCount(t, what+": Room", x.Room(), 0)
			wantTold(t, what+": All", x.All())
		}
	}
}

// P17.2: a table without room takes nothing, and says that it is full.
func TestNoRoom(t *testing.T) {
	x := made[string](t, 0)
	for _, id := range []uint32{0, 1, topmost, 1} {
		wantPut(t, "no room", x, id, "x", "", api.ErrFull)
		v, ok := x.Del(id)
		wantValue(t, "Del", v, ok, "", false)
		wantTable(t, "no room", x, 0)
	}
}

// P17.2: as many go in as there is room for, one more does not and changes nothing; a number that stands takes another value, full or not.
func TestPutWhenFullAndNot(t *testing.T) {
	for room := 1; room <= 5; room++ {
		for count := range room + 1 {
			what := fmt.Sprintf("%d of %d", count, room)
			x, p := made[string](t, room), &plain[string]{room: room}
			for i := range count {
				q := under(uint32(10 * (i * 3 % 7)))[0]
				wantPut(t, what, x, q.id, q.v, "", api.OK)
				p.put(q.id, q.v)
			}
			wantTable(t, what, x, room, p.list...)
			for _, q := range p.list {
				for _, v := range []string{"other", "", "one more"} {
					both(t, what+": of one that stands", x, p, call[string]{kind: callPut, id: q.id, v: v})
					wantTable(t, what+", put again", x, room, p.list...)
				}
			}
			for _, id := range []uint32{5, topmost, 15, 1} {
				want := api.OK
				if len(p.list) == room {
					want = api.ErrFull
				}
				wantPut(t, what+": of another", x, id, "new", "", want)
				p.put(id, "new")
				wantTable(t, what+", and another", x, room, p.list...)
			}
		}
	}
}

// P17.2: what is taken out gives its room free, and its number may come again, with nothing of what was there.
func TestDel(t *testing.T) {
	list := under(0, 3, 4, 9, topmost)
	for i, q := range list {
		x := made(t, 5, list...)
		for _, id := range []uint32{1, 2, 5, 8, 10, topmost - 1} {
			v, ok := x.Del(id)
			wantValue(t, fmt.Sprint("Del of none: ", id), v, ok, "", false)
			wantTable(t, "nothing taken out", x, 5, list...)
		}
		rest := slices.Delete(slices.Clone(list), i, i+1)
		v, ok := x.Del(q.id)
		wantValue(t, fmt.Sprint("Del ", q.id), v, ok, q.v, true)
		wantTable(t, fmt.Sprint("without ", q.id), x, 5, rest...)
		v, ok = x.Del(q.id)
		wantValue(t, fmt.Sprint("Del again ", q.id), v, ok, "", false)
		v, ok = x.Get(q.id)
		wantValue(t, fmt.Sprint("Get ", q.id), v, ok, "", false)
		wantTable(t, fmt.Sprint("still without ", q.id), x, 5, rest...)
		wantPut(t, "again", x, q.id, "again", "", api.OK)
		wantPut(t, "full again", x, 7, "x", "", api.ErrFull)
		again := slices.Clone(list)
		again[i].v = "again"
		wantTable(t, fmt.Sprint("again with ", q.id), x, 5, again...)
	}
}

// P17.2: the zero value is a value like others: that there is one is told by true.
func TestZeroValues(t *testing.T) {
	x := made[string](t, 1)
	wantPut(t, "the zero one", x, 0, "", "", api.OK)
	wantTable(t, "the zero one", x, 1, pair[string]{})
	wantPut(t, "of another", x, 1, "", "", api.ErrFull)
	wantPut(t, "a zero one for a zero one", x, 0, "", "", api.OK)
	v, ok := x.Del(0)
	wantValue(t, "Del", v, ok, "", true)
	v, ok = x.Del(0)
	wantValue(t, "Del of none", v, ok, "", false)
	wantTable(t, "none", x, 1)
}

// P17.3: Next of each number that is there, and of those about it, with all and without, of none, one and more.
func TestNext(t *testing.T) {
	for _, list := range [][]pair[string]{under(), under(0), under(7), under(topmost), under(0, topmost), under(0, 1, 2), under(5, 6, 9, 1<<31, topmost-1)} {
		x := made(t, 8, list...)
		for _, q := range append(under(0, 1, 4, 8, 100, 1<<31-1, 1<<31+1, topmost-2, topmost), list...) {
			var first, next pair[string]
			found := false
			for _, r := range list {
				if !found && r.id > q.id {
					next, found = r, true
				}
			}
			if len(list) > 0 {
				first = list[0]
			}
			wantNext(t, x, q.id, false, next.id, next.v, found)
			wantNext(t, x, q.id, true, first.id, first.v, len(list) > 0)
		}
		wantTable(t, "behind all that", x, 8, list...)
	}
}

// P17.2, P17.3: the numbers are of 32 bits, told from those that are alike in some of them, and held against one another without a sign.
func TestNumbersOf32Bits(t *testing.T) {
	list := under(0, 1, 255, 256, 1<<16-1, 1<<16, 1<<16+1, 1<<31-1, 1<<31, 1<<31+1, topmost-1, topmost)
	for what, step := range map[string]int{"rising": 1, "falling": 11, "to and fro": 7} {
		x := made[string](t, 12)
		for i := range list {
			put(t, x, list[i*step%12])
		}
		wantTable(t, what, x, 12, list...)
		for i, q := range list {
			v, ok := x.Del(q.id)
			wantValue(t, what+": Del", v, ok, q.v, true)
			wantTable(t, what, x, 12, list[i+1:]...)
		}
	}
}

// P17.2, P17.3: as many as there may be at the most, in several orders.
func TestMaxRoom(t *testing.T) {
	const room = 65536
	want := make([]pair[int], room)
	for i := range want {
		want[i] = pair[int]{uint32(i) * 65537, i}
	}
	for what, step := range map[string]int{"rising": 1, "falling": room - 1, "to and fro": 32771} {
		x := made[int](t, room)
		for i := range want {
			x.Put(want[(i*step+step-1)%room].id, want[(i*step+step-1)%room].v)
		}
		wantTold(t, what, x.All(), want...)
		wantPut(t, what+": one more", x, 5, 5, 0, api.ErrFull)
		wantPut(t, what+": one of them", x, topmost, -1, room-1, api.OK)
		wantPut(t, what+": and back", x, topmost, room-1, -1, api.OK)
		wantNext(t, x, 65537*500, false, 65537*501, 501, true)
		wantCount(t, what, x.Len(), room)
		for i := range want {
			q := want[(i*32771+9)%room]
			if v, ok := x.Del(q.id); v != q.v || !ok {
				t.Fatalf("%s: Del(%d): %d, %v", what, q.id, v, ok)
			}
		}
		wantTable(t, what+", emptied", x, room)
	}
}

// P17.2: the same numbers put in in every order, with the same values, tell the same.
func TestEveryOrder(t *testing.T) {
	list := under(0, 1, 4, 5, 6, 1<<31, topmost)
	for _, places := range orders(len(list)) {
		what := fmt.Sprint("in the order ", places)
		x := made(t, 7, mixed(list, places)...)
		wantTable(t, what, x, 7, list...)
		for i, at := range places {
			v, ok := x.Del(list[at].id)
			wantValue(t, what+": Del", v, ok, list[at].v, true)
			wantCount(t, what+": Len", x.Len(), len(places)-1-i)
		}
		if t.Failed() {
			return
		}
	}
}

// P17.4: the same numbers put in a set in every order tell the same.
func TestSetInEveryOrder(t *testing.T) {
	list := []int{0, 1, 63, 64, 65, 127, 129}
	for _, places := range orders(len(list)) {
		b := setOf(t, 130, mixed(list, places)...)
		wantNumbers(t, fmt.Sprint("in the order ", places), b.All(), list...)
		wantCount(t, fmt.Sprint("in the order ", places), b.Count(), 7)
	}
}

// P17.3: what has been there meanwhile shows nowhere.
func TestPastShowsNowhere(t *testing.T) {
	random := rand.New(rand.NewSource(17))
	list := under(0, 3, 4, 9, 20, topmost)
	for range 300 {
		x := made[string](t, 40)
		for range random.Intn(80) {
			x.Put(random.Uint32()%30, "gone")
			if random.Intn(2) == 0 {
				x.Del(random.Uint32() % 30)
			}
		}
		for id := range uint32(30) {
			x.Del(id)
		}
		put(t, x, mixed(list, random.Perm(len(list)))...)
		wantTable(t, "behind others", x, 40, list...)
	}
}

package timer

import (
	"fmt"
	"math/rand"
	"slices"
	"testing"

	"paddock/api"
)

// The chapter's table, row by row.
func TestExamples(t *testing.T) {
	for _, most := range []int{0, 4097} {
		if d, e := New(most); d != nil || e != api.ErrArg {
			t.Errorf("New(%d): %v, %d", most, d, e)
		}
	}
	d := made(t, 2)
	wantErr(t, "Set the first", d.Set(due(5, 1, 1)), api.OK)
	wantErr(t, "Set the second", d.Set(due(3, 2, 1)), api.OK)
	wantErr(t, "Set what stands", d.Set(due(9, 1, 1)), api.ErrThere)
	wantErr(t, "Set one more", d.Set(due(9, 1, 2)), api.ErrFull)

	x, ok := d.First()
	wantDue(t, "First", x, ok, due(3, 2, 1), true)
	wantTrue(t, "Ready(2)", d.Ready(2), false)
	wantTrue(t, "Ready(3)", d.Ready(3), true)
	x, ok = d.Take(2)
	wantDue(t, "Take(2)", x, ok, api.Due{}, false)
	x, ok = d.Take(4)
	wantDue(t, "Take(4)", x, ok, due(3, 2, 1), true)

	wantCount(t, "CutFence(1)", d.CutFence(1), 1)
	wantCount(t, "Len", d.Len(), 0)
	wantTrue(t, "Cut(1, 1)", d.Cut(1, 1), false)
}

// P16.1: how many there may be.
func TestNew(t *testing.T) {
	if api.MaxDues != 4096 || api.ErrThere != 140 {
		t.Fatalf("MaxDues: %d, ErrThere: %d", api.MaxDues, api.ErrThere)
	}
	for _, most := range []int{least, -4096, -2, -1, 0, 4097, 4098, 65536, 1 << 31, 1<<32 + 1, greatest} {
		if d, e := New(most); d != nil || e != api.ErrArg {
			t.Errorf("New(%d): %v, %d, want ErrArg", most, d, e)
		}
	}
	for _, most := range []int{1, 2, 3, 64, 4095, 4096} {
		wantStand(t, fmt.Sprint("new, of ", most), made(t, most))
	}
}

// P16.1: Dues that are not there, and those that New did not make, answer nothing in every call, and take nothing.
func TestAbsent(t *testing.T) {
	refused, _ := New(0)
	for what, d := range map[string]*Dues{"nil": nil, "refused": refused, "zero": {}, "new": new(Dues)} {
		for range 2 {
			for _, n := range []uint32{0, 1, topmost} {
				wantErr(t, what+": Set", d.Set(due(n, n, n)), api.ErrNil)
				wantTrue(t, what+": Cut", d.Cut(n, n), false)
				wantCount(t, what+": CutObject", d.CutObject(n), 0)
				wantCount(t, what+": CutFence", d.CutFence(n), 0)
				wantTrue(t, what+": Ready", d.Ready(n), false)
				x, ok := d.Take(n)
				wantDue(t, what+": Take", x, ok, api.Due{}, false)
			}
			x, ok := d.First()
			wantDue(t, what+": First", x, ok, api.Due{}, false)
			wantCount(t, what+": Len", d.Len(), 0)
			wantTold(t, what+": All", d.All())
		}
	}
}

// P16.2: as many go in as there may be, one more does not, and changes nothing.
func TestFull(t *testing.T) {
	for _, most := range []int{1, 2, 3, 7, 64} {
		what := fmt.Sprint("room for ", most)
		d, p := made(t, most), &plain{most: most}
		for i := range most {
			x := due(uint32(i*5%most), uint32(i), uint32(i%2))
			wantErr(t, what, d.Set(x), api.OK)
			p.set(x)
			wantStand(t, what, d, p.list...)
		}
		for _, x := range []api.Due{due(0, 99, 99), due(topmost, 0, 7), due(0, 99, 99)} {
			wantErr(t, what+": one more", d.Set(x), api.ErrFull)
			wantStand(t, what+", full", d, p.list...)
		}
		first, _ := p.take(topmost)
		x, ok := d.Take(topmost)
		wantDue(t, what+": Take", x, ok, first, true)
		wantErr(t, what+": room again", d.Set(due(0, 99, 99)), api.OK)
		p.set(due(0, 99, 99))
		wantStand(t, what+", full again", d, p.list...)
		wantErr(t, what+": and one more", d.Set(first), api.ErrFull)
	}
}

// P16.2: what stands does not go in again, with the same At or another, whether it is full or not; what stood and stands no more does.
func TestThere(t *testing.T) {
	list := []api.Due{due(4, 1, 1), due(5, 1, 2), due(6, 2, 1)}
	for _, most := range []int{3, 4} {
		what := fmt.Sprintf("3 of %d", most)
		d := made(t, most, list...)
		for _, x := range list {
			for _, at := range []uint32{0, 1, x.At - 1, x.At, x.At + 1, topmost} {
				wantErr(t, what, d.Set(due(at, x.Object, x.Fence)), api.ErrThere)
				wantStand(t, what, d, list...)
			}
		}
		wantTrue(t, what+": Cut", d.Cut(1, 1), true)
		wantErr(t, what+": Set again", d.Set(due(9, 1, 1)), api.OK)
		wantStand(t, what+", set again", d, list[1], list[2], due(9, 1, 1))
		x, ok := d.Take(5)
		wantDue(t, what+": Take", x, ok, list[1], true)
		wantErr(t, what+": Set what was taken", d.Set(list[1]), api.OK)
		wantErr(t, what+": Set it again", d.Set(list[1]), api.ErrThere)
		wantStand(t, what+", set again", d, list[1], list[2], due(9, 1, 1))
		wantCount(t, what+": CutObject", d.CutObject(1), 2)
		wantErr(t, what+": Set what its object took with it", d.Set(list[0]), api.OK)
		wantCount(t, what+": CutFence", d.CutFence(1), 2)
		wantErr(t, what+": Set what its fence took with it", d.Set(list[2]), api.OK)
		wantStand(t, what+", at the end", d, list[2])
	}
}

// P16.2: an object and a fence are told from one another, and from those of other numbers alike in some bits.
func TestNotThere(t *testing.T) {
	var list []api.Due
	numbers := []uint32{0, 1, 2, 1 << 8, 1 << 16, 1<<16 + 1, 1 << 31, topmost - 1, topmost}
	for _, object := range numbers {
		for _, fence := range numbers {
			list = append(list, due(7, object, fence))
		}
	}
	d := made(t, len(list), list...)
	wantStand(t, "all", d, list...)
	for i, x := range list {
		wantErr(t, "Set again", d.Set(x), api.ErrThere)
		wantTrue(t, "Cut", d.Cut(x.Object, x.Fence), true)
		wantTrue(t, "Cut again", d.Cut(x.Object, x.Fence), false)
		wantStand(t, "cut", d, list[i+1:]...)
	}
}

// P16.2, P16.4: as many as there may be at the most, set in several orders, taken off.
func TestMaxDues(t *testing.T) {
	var want []api.Due
	for i := range uint32(4096) {
		want = append(want, due(i/512, i/8%64, i/512*8+i%8))
	}
	for what, step := range map[string]int{"rising": 1, "falling": 4095, "to and fro": 1537} {
		d := made(t, 4096)
		for i := range want {
			set(t, d, want[i*step%4096])
		}
		wantErr(t, what+": one more", d.Set(due(0, 99, 99)), api.ErrFull)
		wantErr(t, what+": one of them", d.Set(due(9, 63, 63)), api.ErrThere)
		wantStand(t, what, d, want...)
		wantTrue(t, what+": the last", d.Cut(63, 63), true)
		for _, w := range want[:4095] {
			x, ok := d.Take(topmost)
			wantDue(t, what, x, ok, w, true)
			if t.Failed() {
				return
			}
		}
		wantStand(t, what+", taken", d)
	}
}

// nine are some dues in their order, many of them alike in At, in At and Object, or in Fence.
func nine() []api.Due {
	return []api.Due{due(0, 5, 5), due(2, 1, 9), due(2, 3, 1), due(2, 3, 2), due(2, 3, 7), due(2, 4, 0), due(3, 0, 2), due(3, 1, 2), due(topmost, 0, 0)}
}

// P16.3: Cut of each one, the first, the last and those in the midst, alone and one behind the other; and of what does not stand.
func TestCut(t *testing.T) {
	list := nine()
	for i, x := range list {
		d := made(t, 20, list...)
		for _, other := range []api.Due{due(0, x.Object, x.Fence+10), due(0, x.Object+10, x.Fence), due(0, 9, 9)} {
			wantTrue(t, fmt.Sprint("Cut of what does not stand: ", other), d.Cut(other.Object, other.Fence), false)
			wantStand(t, "nothing cut", d, list...)
		}
		rest := slices.Delete(slices.Clone(list), i, i+1)
		wantTrue(t, fmt.Sprint("Cut of ", x), d.Cut(x.Object, x.Fence), true)
		wantStand(t, fmt.Sprint("without ", x), d, rest...)
		wantTrue(t, fmt.Sprint("Cut again of ", x), d.Cut(x.Object, x.Fence), false)
		wantStand(t, fmt.Sprint("still without ", x), d, rest...)
		set(t, d, x)
		wantStand(t, fmt.Sprint("again with ", x), d, list...)
	}
}

// P16.3: an object and a fence that change places are others.
func TestCutIsNotTurnedRound(t *testing.T) {
	d := made(t, 4, due(1, 7, 8))
	wantTrue(t, "Cut(8, 7)", d.Cut(8, 7), false)
	wantCount(t, "CutObject(8)", d.CutObject(8), 0)
	wantCount(t, "CutFence(7)", d.CutFence(7), 0)
	wantStand(t, "nothing cut", d, due(1, 7, 8))
	set(t, d, due(0, 8, 7))
	wantTrue(t, "Cut(7, 8)", d.Cut(7, 8), true)
	wantStand(t, "the other", d, due(0, 8, 7))
}

// P16.3: the numbers at their ends.
func TestCutAtTheEnds(t *testing.T) {
	list := []api.Due{due(1, 0, 0), due(1, 0, topmost), due(1, topmost, 0), due(1, topmost, topmost)}
	for _, n := range []uint32{0, topmost} {
		d := made(t, 4, list...)
		wantCount(t, "CutObject", d.CutObject(n), 2)
		wantCount(t, "CutFence", d.CutFence(n), 1)
		wantStand(t, "one left", d, due(1, topmost-n, topmost-n))
	}
}

// P16.3: CutObject and CutFence of none, of some and of all; the others go on standing.
func TestCutMany(t *testing.T) {
	list := nine()
	for n := range uint32(11) {
		for what, kind := range map[string]int{"object": callCutObject, "fence": callCutFence} {
			what = fmt.Sprint(what, n)
			d, p := made(t, 9, list...), &plain{9, list}
			a := both(t, what, d, p, call{kind, due(n, n, n)})
			wantStand(t, what, d, p.list...)
			wantCount(t, what+": cut", a.n, len(list)-len(p.list))
			if a = both(t, what+" again", d, p, call{kind, due(n, n, n)}); a.n != 0 {
				t.Errorf("%s again: %d", what, a.n)
			}
		}
	}
	wantCount(t, "of three", made(t, 9, list...).CutObject(3), 3)
	wantCount(t, "of three in a fence", made(t, 9, list...).CutFence(2), 3)
	d := made(t, 64)
	for i := range uint32(64) {
		set(t, d, due(i*37%64, 5, i))
	}
	wantCount(t, "another one's", d.CutObject(4), 0)
	wantCount(t, "all", d.CutObject(5), 64)
	wantStand(t, "all of one object", d)
	for i := range uint32(64) {
		set(t, d, due(i*37%64, i, 5))
	}
	wantCount(t, "another fence's", d.CutFence(4), 0)
	wantCount(t, "all", d.CutFence(5), 64)
	wantStand(t, "all of one fence", d)
	wantCount(t, "of nothing", d.CutObject(5)+d.CutFence(5), 0)
}

// P16.3: each object's, and each fence's, of a full table of both.
func TestCutManyOfMany(t *testing.T) {
	for n := range uint32(64) {
		d, p := made(t, 4096), &plain{most: 4096}
		for i := range uint32(4096) {
			x := due(i*611%97, i/64, i%64)
			set(t, d, x)
			p.list = append(p.list, x)
		}
		p.list = inOrder(p.list)
		a := both(t, "object", d, p, call{callCutObject, due(0, n, 0)})
		wantCount(t, "object", a.n, 64)
		a = both(t, "fence", d, p, call{callCutFence, due(0, 0, 63-n)})
		wantCount(t, "fence", a.n, 63)
		wantStand(t, fmt.Sprint("without ", n), d, p.list...)
		if t.Failed() {
			return
		}
	}
}

// P16.4: of nothing, new or not new any more, at any time.
func TestNothingStands(t *testing.T) {
	emptied := made(t, 2, due(0, 1, 1), due(1, 1, 1+1))
	emptied.CutObject(1)
	taken := made(t, 2, due(0, 1, 1))
	taken.Take(0)
	for what, d := range map[string]*Dues{"new": made(t, 2), "cut": emptied, "taken": taken} {
		for _, now := range []uint32{0, 1, 2, 1 << 31, topmost} {
			wantTrue(t, what+": Ready", d.Ready(now), false)
			x, ok := d.Take(now)
			wantDue(t, what+": Take", x, ok, api.Due{}, false)
			x, ok = d.First()
			wantDue(t, what+": First", x, ok, api.Due{}, false)
			wantStand(t, what, d)
		}
	}
}

// P16.4: at each time just below, at and just above that of the first one, and at the ends of time.
func TestTimes(t *testing.T) {
	times := []uint32{0, 1, 2, 3, 1000, 1<<31 - 1, 1 << 31, 1<<31 + 1, topmost - 1, topmost}
	for _, at := range times {
		for _, now := range append([]uint32{at - 1, at, at + 1}, times...) {
			what := fmt.Sprintf("at %d, now %d", at, now)
			x := due(at, 3, 4)
			later := due(topmost, 9, 9)
			d := made(t, 2, later, x)
			first, ok := d.First()
			wantDue(t, what+": First", first, ok, x, true)
			wantTrue(t, what+": Ready", d.Ready(now), at <= now)
			got, ok := d.Take(now)
			if at <= now {
				wantDue(t, what+": Take", got, ok, x, true)
				wantStand(t, what, d, later)
			} else {
				wantDue(t, what+": Take", got, ok, api.Due{}, false)
				wantStand(t, what, d, x, later)
			}
		}
	}
}

// P16.4: the zero Due may stand, too: true tells that it is one.
func TestZeroDue(t *testing.T) {
	d := made(t, 1)
	wantErr(t, "Set", d.Set(api.Due{}), api.OK)
	wantStand(t, "the zero one", d, api.Due{})
	wantErr(t, "Set again", d.Set(api.Due{}), api.ErrThere)
	x, ok := d.Take(0)
	wantDue(t, "Take", x, ok, api.Due{}, true)
	x, ok = d.Take(0)
	wantDue(t, "Take of none", x, ok, api.Due{}, false)
	set(t, d, api.Due{})
	wantTrue(t, "Cut", d.Cut(0, 0), true)
	wantTrue(t, "Cut of none", d.Cut(0, 0), false)
}

// P16.4: each is taken when its own time has come, one behind the other; those that are due later stand on.
func TestTakeUpToNow(t *testing.T) {
	for now, count := range map[uint32]int{0: 1, 1: 1, 2: 6, 3: 8, 4: 8, topmost - 1: 8, topmost: 9} {
		what := fmt.Sprint("now ", now)
		d := made(t, 9, nine()...)
		for _, want := range nine()[:count] {
			x, ok := d.Take(now)
			wantDue(t, what, x, ok, want, true)
		}
		for range 2 {
			x, ok := d.Take(now)
			wantDue(t, what+", one more", x, ok, api.Due{}, false)
			wantStand(t, what, d, nine()[count:]...)
		}
	}
}

// P16.5, P16.6: dues that are alike in At, in At and Object, and in nothing but these.
func TestOrderOfAlike(t *testing.T) {
	for what, want := range map[string][]api.Due{
		"alike in At":            {due(7, 1, 9), due(7, 2, 5), due(7, 3, 0), due(7, topmost, 0)},
		"alike in At and Object": {due(7, 1, 0), due(7, 1, 1), due(7, 1, 256), due(7, 1, topmost)},
		"At ahead of Object":     {due(1, 9, 1), due(2, 8, 1), due(3, 7, 1), due(4, 6, 1)},
		"At ahead of Fence":      {due(1, 1, 9), due(2, 1, 8), due(3, 1, 7), due(4, 1, 6)},
		"Object ahead of Fence":  {due(1, 1, 9), due(1, 2, 8), due(1, 3, 7), due(1, 4, 6)},
		"At in all its bits":     {due(1, 1, 1), due(256, 1, 0), due(1<<31, 0, 0), due(topmost, 0, 1)},
		"Object in all its bits": {due(1, 1, 1), due(1, 256, 0), due(1, 1<<31, 0), due(1, topmost, 1)},
	} {
		for _, places := range orders(len(want)) {
			d := made(t, 4, mixed(want, places)...)
			wantStand(t, what, d, want...)
			for i, w := range want {
				x, ok := d.Take(w.At)
				wantDue(t, what, x, ok, w, true)
				wantStand(t, what, d, want[i+1:]...)
			}
		}
	}
}

// P16.6: the same dues set in every order tell the same in each call, cuts among them.
func TestEveryOrder(t *testing.T) {
	list := nine()[1:8]
	for _, places := range orders(len(list)) {
		what := fmt.Sprint("set in the order ", places)
		d := made(t, 7, mixed(list, places)...)
		wantTold(t, what, d.All(), list...)
		wantTrue(t, what+": Cut", d.Cut(3, 2), true)
		wantCount(t, what+": CutFence", d.CutFence(2), 2)
		for _, w := range []api.Due{list[0], list[1], list[3], list[4]} {
			x, ok := d.Take(2)
			wantDue(t, what, x, ok, w, true)
		}
		wantStand(t, what, d)
		if t.Failed() {
			return
		}
	}
}

// P16.6: what has stood meanwhile, and how often it was set and cut, shows nowhere.
func TestPastShowsNowhere(t *testing.T) {
	random := rand.New(rand.NewSource(16))
	list := nine()
	for range 300 {
		d := made(t, 40)
		for range random.Intn(60) {
			d.Set(due(random.Uint32()%5, random.Uint32()%6, random.Uint32()%6))
			if random.Intn(2) == 0 {
				d.Cut(random.Uint32()%6, random.Uint32()%6)
			}
		}
		for object := range uint32(6) {
			d.CutObject(object)
		}
		set(t, d, mixed(list, random.Perm(len(list)))...)
		wantStand(t, "behind others", d, list...)
	}
}

// P16.6: Takes with a now that does not fall tell dues in their order, but for those that were set meanwhile.
func TestTakesInOrder(t *testing.T) {
	random := rand.New(rand.NewSource(61))
	for range 50 {
		d := made(t, 200)
		var now uint32
		var last api.Due
		for n := range 600 {
			if random.Intn(3) == 0 {
				// What is set now is never due ahead of what was told, so that the order holds for all of them.
				d.Set(due(now+1+random.Uint32()%20, random.Uint32()%12, random.Uint32()%12))
			}
			x, ok := d.Take(now)
			if ok && n > 0 && comes(x, last) || ok && x.At > now {
				t.Fatalf("now %d: %v behind %v", now, x, last)
			}
			if ok {
				last = x
			} else {
				now += random.Uint32() % 3
			}
		}
	}
}

// P16.6: what is set meanwhile and comes ahead of what was told is told next.
func TestSetMeanwhile(t *testing.T) {
	d := made(t, 3, due(4, 1, 1), due(6, 1, 2))
	x, ok := d.Take(5)
	wantDue(t, "Take(5)", x, ok, due(4, 1, 1), true)
	set(t, d, due(2, 9, 9), due(5, 0, 0))
	for _, want := range []api.Due{due(2, 9, 9), due(5, 0, 0)} {
		x, ok = d.Take(5)
		wantDue(t, "Take(5) again", x, ok, want, true)
	}
	x, ok = d.Take(5)
	wantDue(t, "Take(5) at the end", x, ok, api.Due{}, false)
	wantStand(t, "left", d, due(6, 1, 2))
}

// P0.1: two Dues have nothing in common, whatever is done to one of them.
func TestApart(t *testing.T) {
	random := rand.New(rand.NewSource(6))
	for range 20 {
		most := 1 + random.Intn(12)
		a, b := made(t, most), made(t, most)
		p, q := &plain{most: most}, &plain{most: most}
		for range 200 {
			if random.Intn(2) == 0 {
				both(t, "the one", a, p, anyCall(random))
			} else {
				both(t, "the other", b, q, anyCall(random))
			}
			wantStand(t, "the one", a, p.list...)
			wantStand(t, "the other", b, q.list...)
			if t.Failed() {
				return
			}
		}
	}
}

package tree

import (
	"math/rand"
	"testing"

	"paddock/api"
)

func three() map[uint32]api.Box {
	return map[uint32]api.Box{1: box(0, 0, 2, 2), 2: box(2, 2, 5, 3), 7: dot(9, 9)}
}

// P13.1 to P13.6: the chapter's table.
func TestExamples(t *testing.T) {
	x := made(t, three())
	wantTold(t, "At((2,2))", x.At(at(2, 2)), 1, 2)
	wantTold(t, "At((9,9))", x.At(at(9, 9)), 7)
	wantTold(t, "At((3,1))", x.At(at(3, 1)))
	wantTold(t, "Crossing((0,9), (9,0))", x.Crossing(at(0, 9), at(9, 0)), 1, 2, 7)
	wantTold(t, "Range({(3,3), (8,8)})", x.Range(box(3, 3, 8, 8)), 2)
	wantTold(t, "Range({(3,3), (2,2)})", x.Range(box(3, 3, 2, 2)))
	if e := x.Put(1, dot(0, 0)); e != api.ErrThere {
		t.Errorf("Put(1, ..): %d", e)
	}
	if e := x.Put(8, box(1, 0, 0, 0)); e != api.ErrBox {
		t.Errorf("Put(8, {(1,0), (0,0)}): %d", e)
	}
	wantGone(t, "never put in", x, 3)
	del(t, x, 7)
	if x.Len() != 2 {
		t.Errorf("Len: %d", x.Len())
	}
	wantGone(t, "taken out", x, 7)
	one := made(t, map[uint32]api.Box{4: dot(0, 0)})
	if one.Depth() != 1 {
		t.Errorf("Depth of one box: %d", one.Depth())
	}
	if (*Tree)(nil).Depth() != 0 {
		t.Error("Depth of a nil tree")
	}
}

// P13.1: a new tree has nothing, and goes on apart from any other.
func TestNew(t *testing.T) {
	x, y := New(), New()
	words{}.same(t, "a new tree", x, pointsOf(ends()...))
	wantGone(t, "a new tree", x, 0)
	put(t, x, 1, lattice())
	put(t, x, 2, dot(0, 0))
	words{}.same(t, "the other tree", y, pointsOf(ends()...))
	put(t, y, 1, dot(5, 5))
	del(t, y, 1)
	words{1: lattice(), 2: dot(0, 0)}.same(t, "the first tree", x, pointsOf(ends()...))
}

// P13.1, P0.1: one that is not there, and one that New did not make.
func TestNoTree(t *testing.T) {
	for what, x := range map[string]*Tree{"nil": nil, "zero": {}, "new": new(Tree)} {
		for range 2 { // what is refused leaves it as it is
			for _, b := range append(wrongBoxes(), rightBoxes()...) {
				if e := x.Put(1, b); e != api.ErrNil {
					t.Errorf("%s: Put(1, %v): %d", what, b, e)
				}
				wantTold(t, what+": Range", x.Range(b))
				wantTold(t, what+": At", x.At(b.Min))
				wantTold(t, what+": Crossing", x.Crossing(b.Min, b.Max))
			}
			for _, id := range []uint32{0, 1, topmost} {
				if e := x.Del(id); e != api.ErrNil {
					t.Errorf("%s: Del(%d): %d", what, id, e)
				}
				if b, ok := x.Box(id); b != (api.Box{}) || ok {
					t.Errorf("%s: Box(%d): %v, %v", what, id, b, ok)
				}
			}
			if x.Len() != 0 || x.Depth() != 0 {
				t.Errorf("%s: Len: %d, Depth: %d", what, x.Len(), x.Depth())
			}
			if told := x.All(); told == nil || len(pairs(told)) > 0 {
				t.Errorf("%s: All", what)
			}
		}
	}
}

// P13.2, P13.3: each number from the least to the greatest has a place of its own; they rise as numbers without a sign.
func TestNumbers(t *testing.T) {
	x, w := New(), words{}
	ids := []uint32{topmost, 0, 1 << 31, 7, 1<<31 - 1, topmost - 1, 1}
	for i, id := range ids {
		wantGone(t, "ahead of Put", x, id)
		b := box(0, 0, int32(i), 5)
		put(t, x, id, b)
		w.put(id, b)
		w.same(t, "so far", x, pointsOf(-1, 0, 3))
	}
	wantTold(t, "all", x.At(at(0, 0)), 0, 1, 7, 1<<31-1, 1<<31, topmost-1, topmost)
	for _, id := range ids {
		if e := x.Put(id, dot(50, 50)); e != api.ErrThere {
			t.Errorf("Put(%d), a second time: %d", id, e)
		}
		del(t, x, id)
		w.del(id)
		wantGone(t, "behind Del", x, id)
		w.same(t, "what is left", x, pointsOf(-1, 0, 3))
	}
}

// P13.2, P13.3: boxes of all kinds that are right, with corners off the lattice too, and each comes back as it was.
func TestRightBoxes(t *testing.T) {
	x, w := New(), words{}
	for i, b := range rightBoxes() {
		put(t, x, uint32(i), b)
		w.put(uint32(i), b)
	}
	w.same(t, "right boxes", x, append(pointsOf(ends()...), at(9, 9), at(7, 7), at(1, 0), at(0, 1)))
	for i, b := range rightBoxes() {
		alone := made(t, map[uint32]api.Box{3: b})
		wantBoxes(t, "alone", alone, words{3: b})
		wantTold(t, "alone, At its least corner", alone.At(b.Min), 3)
		wantTold(t, "alone, At its greatest corner", alone.At(b.Max), 3)
		wantTold(t, "alone, Range of itself", alone.Range(b), 3)
		del(t, x, uint32(i))
		w.del(uint32(i))
		w.same(t, "right boxes, fewer", x, pointsOf(ends()...))
	}
}

// P13.2: ErrBox ahead of ErrThere; what is refused changes nothing.
func TestRefused(t *testing.T) {
	x, w := New(), words{3: box(0, 0, 9, 9), 5: lattice(), 8: box(-30, -1, -1, 12)}
	for id, b := range w {
		put(t, x, id, b)
	}
	depth := x.Depth()
	for _, b := range wrongBoxes() {
		for _, id := range []uint32{0, 3, 4, 5, topmost} {
			if e := x.Put(id, b); e != api.ErrBox {
				t.Errorf("Put(%d, %v): %d", id, b, e)
			}
		}
	}
	for _, b := range append(rightBoxes(), box(0, 0, 9, 9)) {
		for id := range w {
			if e := x.Put(id, b); e != api.ErrThere {
				t.Errorf("Put(%d, %v): %d", id, b, e)
			}
		}
	}
	for _, id := range []uint32{0, 1, 4, 6, 9, topmost} {
		wantGone(t, "not there", x, id)
	}
	w.same(t, "behind what was refused", x, pointsOf(-edge, -25, -1, 0, 9, 10, edge))
	if x.Depth() != depth {
		t.Errorf("Depth: %d, was %d", x.Depth(), depth)
	}
}

// P13.2, P13.4: a number's next box has nothing of the one before it.
func TestPutAgain(t *testing.T) {
	x := made(t, three())
	for _, b := range append(rightBoxes(), box(0, 0, 25, 5), dot(100, 100)) {
		put(t, x, 6, b)
		w := words(three())
		w.put(6, b)
		w.same(t, "a next box", x, append(pointsOf(ends()...), pointsOf(2, 9, 25, 100)...))
		del(t, x, 6)
		words(three()).same(t, "without it", x, pointsOf(0, 2, 9))
	}
}

// wantFull fails, unless a tree of the multiples of 65537 refuses what comes behind them, for the reason that is first.
func wantFull(t *testing.T, x *Tree) {
	t.Helper()
	for id, want := range map[uint32]api.Errno{6: api.ErrFull, topmost - 1: api.ErrFull, 0: api.ErrThere, topmost: api.ErrThere} {
		if e := x.Put(id, dot(3, 3)); e != want {
			t.Errorf("Put(%d, ..) of a full tree: %d, want %d", id, e, want)
		}
		if e := x.Put(id, box(1, 0, 0, 0)); e != api.ErrBox {
			t.Errorf("Put(%d, {(1,0), (0,0)}) of a full tree: %d", id, e)
		}
		if id == 6 {
			wantGone(t, "refused", x, id)
		}
	}
	if x.Len() != 65536 {
		t.Errorf("Len: %d", x.Len())
	}
}

// P13.2: as many as there may be, and one more; ErrFull behind the two others.
func TestFull(t *testing.T) {
	x := New()
	for i := range uint32(65536) {
		put(t, x, i*65537, dot(int32(i), -int32(i)))
	}
	wantFull(t, x)
	wantDepth(t, "full", x)
	wantTold(t, "refused", x.At(at(3, 3)))
	wantTold(t, "the last one", x.At(at(65535, -65535)), topmost)
	del(t, x, 65537)
	put(t, x, 5, dot(3, 3))
	wantFull(t, x)
	if e := x.Put(65537, dot(1, -1)); e != api.ErrFull {
		t.Errorf("Put of what was taken out, its place taken: %d", e)
	}
	wantTold(t, "the place that came free", x.At(at(3, 3)), 5)
	wantParts(t, "full", x.root)
	w := words{5: dot(3, 3)}
	for i := range uint32(65536) {
		if i != 1 {
			w[i*65537] = dot(int32(i), -int32(i))
		}
	}
	wantBoxes(t, "full", x, w)
	for id := range x.All() {
		if id != 5 {
			del(t, x, id)
		}
	}
	words{5: dot(3, 3)}.same(t, "but one", x, pointsOf(0, 3))
}

// P13.1 to P13.6: putting in and taking out at random, answers and all, against the chapter's words.
func TestAgainstWords(t *testing.T) {
	r := rand.New(rand.NewSource(1))
	refused, taken := 0, 0
	for range 60 {
		x, w := New(), words{}
		many := 1 + r.Intn(60)
		for range 120 {
			id, b := uint32(r.Intn(many)), api.Box{Min: somePoint(r), Max: somePoint(r)}
			if r.Intn(4) > 0 {
				b = between(b.Min, b.Max)
			}
			if r.Intn(3) == 0 {
				got, want := x.Del(id), w.del(id)
				if got != want {
					t.Errorf("Del(%d): %d, want %d", id, got, want)
				}
				if want == api.OK {
					taken++
				}
			} else if got, want := x.Put(id, b), w.put(id, b); got != want {
				t.Errorf("Put(%d, %v): %d, want %d", id, b, got, want)
			} else if want != api.OK {
				refused++
			}
			w.same(t, "at random", x, []api.Point{somePoint(r), somePoint(r), nearby(r), anywhere(r), nearby(r)})
		}
	}
	if min(refused, taken) < 500 {
		t.Errorf("%d refused, %d taken out", refused, taken)
	}
}

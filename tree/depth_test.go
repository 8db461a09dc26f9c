package tree

import (
	"math/rand"
	"slices"
	"testing"

	"paddock/api"
)

// lists are the numbers from 0 to n - 1 in orders that lean to one side, to both, or to none.
func lists(n int) map[string][]uint32 {
	rising := make([]uint32, n)
	for i := range rising {
		rising[i] = uint32(i)
	}
	falling := slices.Clone(rising)
	slices.Reverse(falling)
	var inward, outward, mixed []uint32
	for i := range n {
		k := uint32(i / 2)
		if i%2 == 1 {
			k = uint32(n - 1 - i/2)
		}
		inward = append(inward, k)
	}
	outward = slices.Clone(inward)
	slices.Reverse(outward)
	for _, k := range rand.New(rand.NewSource(int64(n))).Perm(n) {
		mixed = append(mixed, uint32(k))
	}
	var combs []uint32
	for step := range 7 {
		for k := step; k < n; k += 7 {
			combs = append(combs, uint32(k))
		}
	}
	return map[string][]uint32{"rising": rising, "falling": falling, "inward": inward, "outward": outward, "mixed": mixed, "combs": combs}
}

// P13.6: putting in in each of these orders, and taking out in each, at each step.
func TestDepth(t *testing.T) {
	const many = 300
	for how, in := range lists(many) {
		for back, out := range lists(many) {
			x := New()
			if x.Depth() != 0 {
				t.Errorf("Depth without a box: %d", x.Depth())
			}
			for _, id := range in {
				put(t, x, id, dot(int32(id), 0))
				wantDepth(t, how, x)
			}
			wantParts(t, how, x.root)
			for _, id := range out {
				del(t, x, id)
				wantDepth(t, how+", out "+back, x)
			}
			if x.Depth() != 0 {
				t.Errorf("Depth, all taken out: %d", x.Depth())
			}
		}
	}
}

// P13.6: of no box, of one and of two, whose depths can be nothing else, and of three.
func TestDepthOfFew(t *testing.T) {
	for n := range 4 {
		for _, in := range orders(n) {
			x := New()
			for _, id := range in {
				put(t, x, uint32(id), api.Box{})
			}
			if n < 3 && x.Depth() != n {
				t.Errorf("Depth of %v: %d", in, x.Depth())
			}
			wantDepth(t, "few", x)
		}
	}
}

// P13.6: numbers that go out at one end while others come in at the other, and a tree that is thinned out and filled up again, by chance.
func TestDepthOnTheMove(t *testing.T) {
	x := New()
	for i := range uint32(5000) {
		put(t, x, i, dot(int32(i), 0))
		if i >= 40 {
			del(t, x, i-40)
		}
		wantDepth(t, "moving up", x)
	}
	r := rand.New(rand.NewSource(2))
	for round := range 20 {
		for range 400 {
			if id := r.Uint32() % 2000; round%2 == 0 {
				x.Put(id, dot(int32(id), 0))
			} else {
				x.Del(id)
			}
		}
		wantDepth(t, "by chance", x)
		wantParts(t, "by chance", x.root)
	}
}

// steps is how many nodes stand on the way to a number, or to where it would be put in.
func steps(x *Tree, id uint32) int {
	count := 0
	for n := x.root; n != nil && n.id != id; count++ {
		if id < n.id {
			n = n.low
		} else {
			n = n.high
		}
	}
	return count
}

// deepest is the number amid two neighbours that would be put in the furthest down; of several the first, or the last.
func deepest(x *Tree, first bool) uint32 {
	var best, low uint32
	down := -1
	try := func(high uint32) {
		mid := low + (high-low)/2
		if d := steps(x, mid); mid > low && (d > down || d == down && !first) {
			best, down = mid, d
		}
		low = high
	}
	for id := range x.All() {
		try(id)
	}
	try(topmost)
	return best
}

// P13.6: what comes in is put always where the tree is deepest.
func TestDepthPutWhereDeep(t *testing.T) {
	for what, first := range map[string]func(i int) bool{
		"first":     func(int) bool { return true },
		"last":      func(int) bool { return false },
		"by turns":  func(i int) bool { return i%2 == 0 },
		"by threes": func(i int) bool { return i%3 == 0 },
	} {
		x := New()
		for i := range 400 {
			put(t, x, deepest(x, first(i)), dot(int32(i), 0))
			wantDepth(t, what, x)
		}
		wantParts(t, what, x.root)
	}
}

// offTheWay are the numbers that do not stand on one of the longest ways down: that of the least number, or of the greatest, of those that lie the furthest down.
func offTheWay(x *Tree, first bool) []uint32 {
	var end uint32
	down := -1
	for id := range x.All() {
		if d := steps(x, id); d > down || d == down && !first {
			end, down = id, d
		}
	}
	var list []uint32
	for id := range x.All() {
		n := x.root
		for n.id != id && n.id != end {
			if end < n.id {
				n = n.low
			} else {
				n = n.high
			}
		}
		if n.id != id {
			list = append(list, id)
		}
	}
	return list
}

// P13.6: what goes out is never on the longest way down, as long as there is something else.
func TestDepthTakenWhereFlat(t *testing.T) {
	for what, choose := range map[string]func(list []uint32) uint32{
		"the least":    func(list []uint32) uint32 { return list[0] },
		"the greatest": func(list []uint32) uint32 { return list[len(list)-1] },
		"the middle":   func(list []uint32) uint32 { return list[len(list)/2] },
	} {
		for _, first := range []bool{true, false} {
			for how, in := range lists(300) {
				x := New()
				for _, id := range in {
					put(t, x, id, dot(int32(id), 0))
				}
				for list := offTheWay(x, first); len(list) > 0; list = offTheWay(x, first) {
					del(t, x, choose(list))
					wantDepth(t, how+", without "+what, x)
				}
				wantParts(t, how, x.root)
			}
		}
	}
}

// P13.6: as many boxes as there may be, in orders that lean.
func TestDepthOfMany(t *testing.T) {
	for how, in := range lists(65536) {
		x := New()
		for _, id := range in {
			put(t, x, id, dot(int32(id), 0))
		}
		wantDepth(t, how, x)
		for _, id := range in[:65000] {
			del(t, x, id)
		}
		wantDepth(t, how+", most taken out", x)
		wantParts(t, how, x.root)
	}
}

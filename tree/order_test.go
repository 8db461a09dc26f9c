package tree

import (
	"math/rand"
	"slices"
	"testing"

	"paddock/api"
)

// herd are boxes that lie over one another, beside one another and far off.
func herd() []api.Box {
	return []api.Box{box(0, 0, 9, 9), box(5, 5, 25, 15), box(-10, -10, 0, 0), lattice(), dot(9, 9), box(edge, edge, greatest, greatest)}
}

// orders are all orders of the numbers from 0 to n - 1.
func orders(n int) [][]int {
	if n == 0 {
		return [][]int{nil}
	}
	var list [][]int
	for _, o := range orders(n - 1) {
		for i := range n {
			list = append(list, slices.Insert(slices.Clone(o), i, n-1))
		}
	}
	return list
}

// courses are all lists that have each number from 0 to n - 1 twice.
func courses(n int) [][]int {
	if n == 0 {
		return [][]int{nil}
	}
	var list [][]int
	for _, c := range courses(n - 1) {
		for i := range len(c) + 1 {
			once := slices.Insert(slices.Clone(c), i, n-1)
			for j := range i + 1 {
				list = append(list, slices.Insert(slices.Clone(once), j, n-1))
			}
		}
	}
	return list
}

// P13.7: every course in which four boxes can be put in and taken out again.
func TestEveryCourse(t *testing.T) {
	boxes := herd()[:4]
	points := []api.Point{at(0, 0), at(9, 9), at(10, 10), at(-1, -1), at(edge, 5), at(edge, edge+1)}
	all := courses(len(boxes))
	if len(all) != 2520 {
		t.Errorf("%d courses", len(all))
	}
	for _, course := range all {
		x, w := New(), words{}
		for _, n := range course {
			id := uint32(n)
			if w.put(id, boxes[n]) == api.OK {
				put(t, x, id, boxes[n])
			} else {
				w.del(id)
				del(t, x, id)
			}
			w.same(t, "on the way", x, points)
		}
	}
}

// P13.7: six boxes put in and taken out in each order, against the words at each step.
func TestEveryOrder(t *testing.T) {
	boxes := herd()
	points := append(pointsOf(-1, 0, 9), at(20, 10), at(edge, edge), at(greatest, greatest))
	ways := orders(len(boxes))
	for i, in := range ways {
		x, w := New(), words{}
		for _, n := range in {
			put(t, x, uint32(n), boxes[n])
			w.put(uint32(n), boxes[n])
		}
		w.same(t, "put in", x, points)
		for _, n := range ways[(7*i)%len(ways)] {
			del(t, x, uint32(n))
			w.del(uint32(n))
			w.same(t, "taken out", x, points)
		}
	}
}

// P13.6, P13.7: each one taken out of each tree of up to eight numbers that came in in any order.
func TestEveryOneOut(t *testing.T) {
	for n := 1; n <= 8; n++ {
		for i, in := range orders(n) {
			x, w := New(), words{}
			for _, k := range in {
				x.Put(uint32(k), dot(int32(k), -int32(k)))
				w.put(uint32(k), dot(int32(k), -int32(k)))
			}
			out := uint32(i % n)
			del(t, x, out)
			w.del(out)
			wantBoxes(t, "one out", x, w)
			wantDepth(t, "one out", x)
			wantParts(t, "one out", x.root)
		}
	}
}

// answers is all that a tree tells at some points, on the ways between them and in the boxes of them, but Depth.
func answers(x *Tree, points []api.Point) []uint32 {
	list := []uint32{uint32(x.Len())}
	for id, b := range x.All() {
		list = append(list, id, uint32(b.Min.X), uint32(b.Min.Y), uint32(b.Max.X), uint32(b.Max.Y))
	}
	for _, p := range points {
		list = append(append(list, 1<<20), slices.Collect(x.At(p))...)
		for _, q := range points {
			list = append(append(list, 1<<21), slices.Collect(x.Crossing(p, q))...)
			list = append(append(list, 1<<22), slices.Collect(x.Range(api.Box{Min: p, Max: q}))...)
		}
	}
	return list
}

// P13.7: two trees with the same boxes, one put in in order, the other by way of many that are gone again.
func TestSameBoxes(t *testing.T) {
	r := rand.New(rand.NewSource(3))
	points := append(pointsOf(-8, 0, 3), anywhere(r), anywhere(r))
	for range 100 {
		boxes := map[uint32]api.Box{}
		for range r.Intn(40) {
			boxes[r.Uint32()>>r.Intn(32)] = between(somePoint(r), somePoint(r))
		}
		straight, roundabout := made(t, boxes), New()
		for id, b := range boxes {
			for range 3 {
				other := id + uint32(r.Intn(5))
				roundabout.Put(other, between(somePoint(r), somePoint(r)))
			}
			roundabout.Del(id)
			put(t, roundabout, id, b)
		}
		for id, b := range roundabout.All() {
			if want, there := boxes[id]; !there {
				del(t, roundabout, id)
			} else if want != b {
				del(t, roundabout, id)
				put(t, roundabout, id, want)
			}
		}
		if a, b := answers(straight, points), answers(roundabout, points); !slices.Equal(a, b) {
			t.Errorf("%v: %v, want %v", boxes, b, a)
		}
	}
}

// P13.7: a Put and a Del of what it put leave every answer as it was.
func TestPutAndDel(t *testing.T) {
	r := rand.New(rand.NewSource(4))
	points := append(pointsOf(-11, 0, 9), at(edge, 5), at(greatest, greatest))
	x := New()
	for i, b := range herd() {
		put(t, x, uint32(10*i), b)
	}
	before := answers(x, points)
	for range 500 {
		one, other := uint32(1+r.Intn(9)), uint32(11+r.Intn(9))
		put(t, x, one, between(anywhere(r), anywhere(r)))
		put(t, x, other, between(somePoint(r), somePoint(r)))
		if r.Intn(2) == 0 {
			one, other = other, one
		}
		del(t, x, one)
		del(t, x, other)
		if got := answers(x, points); !slices.Equal(got, before) {
			t.Errorf("behind %d and %d: %v, want %v", one, other, got, before)
		}
	}
}

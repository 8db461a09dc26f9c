package grid

import (
	"math/rand"
	"slices"
	"testing"

	"paddock/api"
)

// herd are boxes that have cells in common, and one that is apart where cells are small.
func herd() []api.Box {
	return []api.Box{box(0, 0, 9, 9), box(5, 5, 25, 15), box(-10, -10, 0, 0), whole(), box(9, 9, 9, 9)}
}

// orders are all orders of the numbers from 0 to n - 1.
func orders(n int) [][]int {
	if n == 0 {
		return [][]int{nil}
	}
	var list [][]int
	for _, o := range orders(n - 1) {
		for i := range n {
			list = append(list, slices.Insert(slices.Clone(o), i, n-1))
		}
	}
	return list
}

// courses are all lists that have each number from 0 to n - 1 twice.
func courses(n int) [][]int {
	if n == 0 {
		return [][]int{nil}
	}
	var list [][]int
	for _, c := range courses(n - 1) {
		for i := range len(c) + 1 {
			once := slices.Insert(slices.Clone(c), i, n-1)
			for j := range i + 1 {
				list = append(list, slices.Insert(slices.Clone(once), j, n-1))
			}
		}
	}
	return list
}

// P12.7: every course in which four boxes can be put in and taken out again.
func TestEveryCourse(t *testing.T) {
	boxes := herd()[:4]
	points := []api.Point{at(0, 0), at(9, 9), at(10, 10), at(-1, -1), at(20, 0), at(edge, 5)}
	all := courses(len(boxes))
	if len(all) != 2520 {
		t.Errorf("%d courses", len(all))
	}
	for _, course := range all {
		g, w := made(t, 10), newWords(10)
		for _, n := range course {
			id := uint32(n)
			if w.put(id, boxes[n]) == api.OK {
				put(t, g, id, boxes[n])
			} else {
				w.del(id)
				del(t, g, id)
			}
			w.same(t, "on the way", g, points)
		}
		wantCounts(t, "at the end", g, 0, 0, 0)
	}
}

// P12.7: five boxes put in and taken out in each order, against the words at each step.
func TestEveryOrder(t *testing.T) {
	boxes := herd()
	points := append(pointsOf(-11, -1, 0, 9, 10, 20), at(edge, 5), at(-edge, -edge))
	ways := orders(len(boxes))
	for i, in := range ways {
		g, w := made(t, 10), newWords(10)
		for _, n := range in {
			put(t, g, uint32(n), boxes[n])
			w.put(uint32(n), boxes[n])
		}
		w.same(t, "put in", g, points)
		for _, n := range ways[(7*i)%len(ways)] {
			del(t, g, uint32(n))
			w.del(uint32(n))
			w.same(t, "taken out", g, points)
		}
		wantCounts(t, "at the end", g, 0, 0, 0)
	}
}

// answers is all that a grid tells at some points, and on the ways between them.
func answers(g *Grid, points []api.Point) []uint32 {
	list := []uint32{uint32(g.Len()), uint32(g.Apart()), uint32(g.Cells())}
	for _, p := range points {
		list = append(append(list, 1<<20), slices.Collect(g.At(p))...)
		for _, q := range points {
			list = append(append(list, 1<<21), slices.Collect(g.Crossing(p, q))...)
		}
	}
	return list
}

// P12.7: a Put and a Del of what it put leave every answer as it was, also where others were put in and taken out between them.
func TestPutAndDel(t *testing.T) {
	r := rand.New(rand.NewSource(3))
	points := append(pointsOf(-400, -11, 0, 9, 10), at(edge, 5), at(-edge, -edge))
	for _, size := range []int64{1, 3, 10, 1 << 20, api.MaxCell} {
		g := made(t, size)
		for i, b := range herd() {
			put(t, g, uint32(i), b)
		}
		before := answers(g, points)
		for range 100 {
			b, c := between(anywhere(r), anywhere(r)), between(somePoint(r, size), somePoint(r, size))
			put(t, g, 50, b)
			put(t, g, 60, c)
			if r.Intn(2) == 0 {
				del(t, g, 50)
				del(t, g, 60)
			} else {
				del(t, g, 60)
				del(t, g, 50)
			}
			if got := answers(g, points); !slices.Equal(got, before) {
				t.Errorf("cells of %d, behind %v and %v: %v, want %v", size, b, c, got, before)
			}
		}
	}
}

// P12.7: of very many boxes in one cell, put in and taken out in orders of chance.
func TestManyInOneCell(t *testing.T) {
	const many = 3000
	r := rand.New(rand.NewSource(4))
	g := made(t, 10)
	for _, n := range r.Perm(many) {
		put(t, g, uint32(n), box(int32(n%10), 0, int32(n%10), 0))
	}
	wantCounts(t, "many", g, many, 0, 1)
	there := make([]uint32, many)
	for i := range there {
		there[i] = uint32(i)
	}
	wantTold(t, "many", g.At(at(5, 5)), there...)
	for _, n := range r.Perm(many)[:many-7] {
		del(t, g, uint32(n))
		i, _ := slices.BinarySearch(there, uint32(n))
		there = slices.Delete(there, i, i+1)
	}
	wantCounts(t, "seven", g, 7, 0, 1)
	wantTold(t, "seven", g.At(at(5, 5)), there...)
}

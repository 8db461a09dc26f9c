package ring

import (
	"math"
	"math/rand"
	"slices"
	"strconv"
	"strings"

	"paddock/api"
	"paddock/point"
)

const (
	edge     = api.Bound
	least    = math.MinInt32
	greatest = math.MaxInt32
)

func at(x, y int32) api.Point { return api.Point{X: x, Y: y} }

// of makes points out of coordinates.
func of(c ...int32) []api.Point {
	var list []api.Point
	for i := 0; i+1 < len(c); i += 2 {
		list = append(list, at(c[i], c[i+1]))
	}
	return list
}

// grid are all points whose coordinates are among these.
func grid(coordinates ...int32) []api.Point {
	var list []api.Point
	for _, x := range coordinates {
		for _, y := range coordinates {
			list = append(list, at(x, y))
		}
	}
	return list
}

func text(v []api.Point) string {
	var b strings.Builder
	for _, p := range v {
		b.WriteString("(" + strconv.Itoa(int(p.X)) + "," + strconv.Itoa(int(p.Y)) + ")")
	}
	return b.String()
}

// The oracle: what segments have in common is solved for, in numbers of 64 bits, which hold all products of two of the lattice's differences, and the sums of two of these.

type way struct{ x, y int64 }

func to(a, b api.Point) way { return way{int64(b.X) - int64(a.X), int64(b.Y) - int64(a.Y)} }

func (v way) cross(w way) int64 { return v.x*w.y - v.y*w.x }

func (v way) dot(w way) int64 { return v.x*w.x + v.y*w.y }

// within tells whether num / den is from 0 to 1.
func within(num, den int64) bool {
	if den < 0 {
		num, den = -num, -den
	}
	return 0 <= num && num <= den
}

// common is how many points two segments of the lattice have in common: none, one, or more (2).
func common(a, b, c, d api.Point) int {
	if a == b {
		a, b, c, d = c, d, a, b
	}
	if a == b {
		if a == c {
			return 1
		}
		return 0
	}
	first, second, between := to(a, b), to(c, d), to(a, c)
	if den := first.cross(second); den != 0 {
		if within(between.cross(second), den) && within(between.cross(first), den) {
			return 1
		}
		return 0
	}
	if between.cross(first) != 0 {
		return 0
	}
	from, till := first.dot(to(a, c)), first.dot(to(a, d))
	low, high := max(0, min(from, till)), min(first.dot(first), max(from, till))
	switch {
	case low < high:
		return 2
	case low == high:
		return 1
	}
	return 0
}

func ofLattice(p api.Point) bool {
	return -edge <= p.X && p.X <= edge && -edge <= p.Y && p.Y <= edge
}

// fault is what Check answers.
type fault struct {
	reason api.Errno
	i, j   int
}

func checked(v []api.Point) fault {
	reason, i, j := Check(v)
	return fault{reason, i, j}
}

// faults are all that is wrong with a list, in the order in which it is told.
func faults(v []api.Point) []fault {
	n := len(v)
	if n < 3 || n > 64 {
		return []fault{{api.ErrVerts, 0, 0}}
	}
	var bound, same, pairs []fault
	for i, p := range v {
		if !ofLattice(p) {
			bound = append(bound, fault{api.ErrBound, i, 0})
		}
		if k := (i + 1) % n; p == v[k] {
			same = append(same, fault{api.ErrSame, i, k})
		}
	}
	if len(bound) > 0 {
		return append(bound, same...)
	}
	for i := range n {
		for j := i + 1; j < n; j++ {
			points := common(v[i], v[(i+1)%n], v[j], v[(j+1)%n])
			if j == i+1 || i == 0 && j == n-1 {
				if points > 1 {
					pairs = append(pairs, fault{api.ErrFold, i, j})
				}
			} else if points > 0 {
				pairs = append(pairs, fault{api.ErrCross, i, j})
			}
		}
	}
	return append(same, pairs...)
}

// wrong is what is told of a list.
func wrong(v []api.Point) fault {
	if list := faults(v); len(list) > 0 {
		return list[0]
	}
	return fault{}
}

// tuples are all lists of n of some points.
func tuples(n int, points []api.Point) [][]api.Point {
	list := [][]api.Point{nil}
	for range n {
		var longer [][]api.Point
		for _, v := range list {
			for _, p := range points {
				longer = append(longer, append(slices.Clone(v), p))
			}
		}
		list = longer
	}
	return list
}

func picked(r *rand.Rand, n int, points []api.Point) []api.Point {
	var list []api.Point
	for range n {
		list = append(list, points[r.Intn(len(points))])
	}
	return list
}

// spread is a point from -reach to reach.
func spread(r *rand.Rand, reach int64) api.Point {
	return at(int32(r.Int63n(2*reach+1)-reach), int32(r.Int63n(2*reach+1)-reach))
}

// star is a list of n points that goes round about the middle, mostly a ring: no two of them lie in one direction.
func star(r *rand.Rand, n int, reach int64) []api.Point {
	o := at(0, 0)
	var list []api.Point
	for range n {
		if p := spread(r, reach); p != o {
			list = append(list, p)
		}
	}
	slices.SortFunc(list, func(a, b api.Point) int { return point.Around(o, a, b) })
	return slices.CompactFunc(list, func(a, b api.Point) bool { return point.Around(o, a, b) == 0 })
}

// comb is a ring with so many teeth, of two vertices each and two of its back, that goes up to a height.
func comb(teeth int, wide, high int32) []api.Point {
	list := []api.Point{at(0, -1), at(int32(2*teeth-1)*wide, -1)}
	for i := 2*teeth - 1; i >= 0; i-- {
		y := int32(0)
		if i%2 == 1 {
			y = high
		}
		list = append(list, at(int32(i)*wide, y))
	}
	return list
}

// ribbon is a ring of 2 * n vertices that goes up and down, and back beside itself.
func ribbon(n int, wide, high int32) []api.Point {
	var list, above []api.Point
	for i := range int32(n) {
		list = append(list, at(i*wide, i%2*high))
		above = append(above, at(i*wide, i%2*high+1))
	}
	return append(list, turned(above)...)
}

// rings are lists without a fault: all of three and four vertices on a small grid, some with more, round the middle of any size, at the lattice's edge, with 64 vertices, with vertices in the midst of edges; the same in each run.
func rings() [][]api.Point {
	r := rand.New(rand.NewSource(6))
	list := append(tuples(3, grid(-1, 0, 1)), tuples(4, grid(-1, 0, 1))...)
	for range 3000 {
		list = append(list, picked(r, 5+r.Intn(3), grid(-2, -1, 0, 1, 2)), picked(r, 3+r.Intn(4), grid(-edge, 1-edge, 0, edge-1, edge)))
	}
	for range 300 {
		list = append(list, star(r, 3+r.Intn(8), 5), star(r, 3+r.Intn(62), edge>>r.Intn(28)))
		list = append(list, turned(star(r, 3+r.Intn(62), edge>>r.Intn(28))))
	}
	list = append(list, comb(31, 1, 1), comb(31, 1, edge), comb(31, edge/64, edge), comb(2, 3, 2), ribbon(32, 1, edge-1), ribbon(32, edge/32, edge-1), ribbon(2, 2, 4))
	list = append(list, grid(-edge, edge), of(-edge, -edge, edge, -edge, edge, edge, -edge, edge), of(-edge, -edge, edge, edge, edge, edge-1), of(edge, edge, -edge, edge, edge-1, edge-1))
	list = slices.DeleteFunc(list, func(v []api.Point) bool { return wrong(v) != fault{} })
	for _, v := range list[:len(list):len(list)] {
		if w, ok := halved(v, r.Intn(len(v))); ok && len(w) <= api.MaxVerts {
			list = append(list, w)
		}
	}
	return list
}

func begun(v []api.Point, i int) []api.Point { return append(slices.Clone(v[i:]), v[:i]...) }

func turned(v []api.Point) []api.Point {
	w := slices.Clone(v)
	slices.Reverse(w)
	return w
}

// halved is the list with a vertex more in the midst of edge i, if there is a point of the lattice there.
func halved(v []api.Point, i int) ([]api.Point, bool) {
	a, b := v[i], v[(i+1)%len(v)]
	x, y := int64(a.X)+int64(b.X), int64(a.Y)+int64(b.Y)
	if x%2 != 0 || y%2 != 0 || a == b {
		return nil, false
	}
	return slices.Insert(slices.Clone(v), i+1, at(int32(x/2), int32(y/2))), true
}

package track

import (
	"cmp"
	"math"
	"math/bits"

	"paddock/api"
)

// between is how far it is from one point to another along x and along y: below 2^32 both ways, whatever the points are.
func between(p, q api.Point) (dx, dy int64) {
	return int64(q.X) - int64(p.X), int64(q.Y) - int64(p.Y)
}

// size is a difference without its sign.
func size(d int64) uint64 { return uint64(max(d, -d)) }

// distance is how far two points are apart, by the chapter's words.
func distance(p, q api.Point) float64 {
	dx, dy := between(p, q)
	sum, carry := bits.Add64(size(dx)*size(dx), size(dy)*size(dy), 0)
	if carry == 0 {
		return math.Sqrt(float64(sum))
	}
	// A sum of 65 bits is halved. Its last bit, which is far behind those that a real number keeps, still says in the one ahead of it whether anything is left, so that all is rounded once.
	return math.Sqrt(2 * float64(1<<63|sum>>1|sum&1))
}

// Speed is an object's speed behind a move (P18.1).
func Speed(old float64, p, q api.Point, t0, t uint32) float64 {
	if t <= t0 {
		return old
	}
	n := uint64(t - t0)
	v := distance(p, q) / float64(n)
	w := float64(n) / float64(n+api.Damping)
	d := v - old
	// The conversion keeps the product from being joined with the sum.
	return old + float64(w*d)
}

// Way is how long a way through points is (P18.2).
func Way(v []api.Point) float64 {
	sum := 0.0
	for i := 1; i < len(v); i++ {
		sum += distance(v[i-1], v[i])
	}
	return sum
}

// sectors are the sectors by the signs of dy and of dx, each one higher.
var sectors = [3][3]int{{5, 6, 7}, {4, -1, 0}, {3, 2, 1}}

// along is whether a move is of an axis: a is how far it goes along that one, b how far along the other.
func along(a, b uint64) bool {
	// Where a - b is not above b, its square is not above 2 · b · b. Where it is, b is below 2^31, so that no product is above 64 bits.
	return a > b && a-b > b && (a-b)*(a-b) > 2*b*b
}

// Heading is in which of eight directions a move goes; -1: in none (P18.2).
func Heading(p, q api.Point) int {
	dx, dy := between(p, q)
	a, b := size(dx), size(dy)
	switch {
	case along(a, b):
		dy = 0
	case along(b, a):
		dx = 0
	}
	return sectors[cmp.Compare(dy, 0)+1][cmp.Compare(dx, 0)+1]
}

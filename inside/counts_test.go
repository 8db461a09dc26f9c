package inside

import (
	"math/big"
	"math/rand"
	"testing"

	"paddock/api"
	"paddock/ring"
)

// counts is what Counts answers.
type counts struct {
	within, edge int64
	reason       api.Errno
}

func counted(v []api.Point) counts {
	within, edge, e := Counts(v)
	return counts{within, edge, e}
}

// P7.6
func TestCountsOneByOne(t *testing.T) {
	all, within := 0, 0
	for _, v := range rings() {
		box, _ := ring.Bounds(v)
		if int64(box.Max.X)-int64(box.Min.X) > 70 || int64(box.Max.Y)-int64(box.Min.Y) > 70 {
			continue
		}
		all++
		var want counts
		for x := box.Min.X; x <= box.Max.X; x++ {
			for y := box.Min.Y; y <= box.Max.Y; y++ {
				if is := words(v, at(x, y)); is.edge {
					want.edge++
				} else if is.covers() {
					want.within++
				}
			}
		}
		within += int(want.within)
		if got := counted(v); got != want {
			t.Errorf("%s: %v, want %v", text(v...), got, want)
		}
	}
	if all < 500 || within < 1000 {
		t.Errorf("%d rings, with %d points", all, within)
	}
}

// P7.6
func TestCountsByHand(t *testing.T) {
	const d = bound
	for _, x := range []struct {
		what string
		v    []api.Point
		want counts
	}{
		{"a square", of(0, 0, 4, 0, 4, 4, 0, 4), counts{9, 16, api.OK}},
		{"backwards", of(0, 4, 4, 4, 4, 0, 0, 0), counts{9, 16, api.OK}},
		{"the least triangle", of(0, 0, 1, 0, 0, 1), counts{0, 3, api.OK}},
		{"one within", of(0, 0, 2, 1, 1, 2), counts{1, 3, api.OK}},
		{"vertices in the midst of sides", of(0, 0, 1, 0, 3, 0, 4, 0, 4, 4, 2, 4, 0, 4), counts{9, 16, api.OK}},
		{"not convex", of(0, 0, 4, 0, 4, 4, 2, 1, 0, 4), counts{4, 14, api.OK}},
		{"the whole lattice", of(-d, -d, d, -d, d, d, -d, d), counts{(2*d - 1) * (2*d - 1), 8 * d, api.OK}},
		{"the whole lattice, backwards", of(-d, d, d, d, d, -d, -d, -d), counts{(2*d - 1) * (2*d - 1), 8 * d, api.OK}},
		{"half the lattice", of(-d, -d, d, -d, -d, d), counts{(2*d - 1) * (d - 1), 6 * d, api.OK}},
		{"a square on its tip", of(0, -d, d, 0, 0, d, -d, 0), counts{2*d*d - 2*d + 1, 4 * d, api.OK}},
		{"as long and thin as can be", of(-d, -d, d, d-1, d, d), counts{0, 2*d + 2, api.OK}},
		{"no points but its ends", of(-d, -d, d, d-1, d-1, d-2), counts{0, 3, api.OK}},
		{"a comb", comb(31, 1, d), counts{30 * d, d + 124, api.OK}},
		{"a row", of(-d, 0, d, 0, d, 1, -d, 1), counts{0, 4*d + 2, api.OK}},
		{"two rows", of(-d, 0, d, 0, d, 2, -d, 2), counts{2*d - 1, 4*d + 4, api.OK}},
	} {
		if got := counted(x.v); got != x.want {
			t.Errorf("%s: %v, want %v", x.what, got, x.want)
		}
	}
}

// P7.6
func TestCountsOfWhatIsNoRing(t *testing.T) {
	for _, x := range []struct {
		what string
		v    []api.Point
		want api.Errno
	}{
		{"none", nil, api.ErrVerts},
		{"an empty list", []api.Point{}, api.ErrVerts},
		{"one", of(3, 3), api.ErrVerts},
		{"two", of(0, 0, 4, 4), api.ErrVerts},
		{"65", star(rand.New(rand.NewSource(5)), 65, bound), api.ErrVerts},
		{"off the lattice", of(0, 0, 4, 0, bound+1, 4), api.ErrBound},
		{"all there is", of(least, least, greatest, least, greatest, greatest, least, greatest), api.ErrBound},
		{"a point twice", of(0, 0, 4, 0, 4, 0, 0, 4), api.ErrSame},
		{"a fold", of(0, 0, 4, 0, 2, 0), api.ErrFold},
		{"a crossing", of(0, 0, 4, 4, 4, 0, 0, 4), api.ErrCross},
		{"told twice", of(0, 0, 4, 0, 4, 4, 0, 4, 0, 0, 4, 0, 4, 4, 0, 4), api.ErrCross},
	} {
		if got := counted(x.v); got != (counts{0, 0, x.want}) {
			t.Errorf("%s: %v, want %v", x.what, got, x.want)
		}
	}
	seen := map[api.Errno]int{}
	for _, v := range lists() {
		reason, _, _ := ring.Check(v)
		seen[reason]++
		if got := counted(v); got.reason != reason || reason != api.OK && got != (counts{0, 0, reason}) {
			t.Errorf("%s: %v, want the reason %v", text(v...), got, reason)
		}
	}
	for _, reason := range []api.Errno{api.OK, api.ErrVerts, api.ErrBound, api.ErrSame, api.ErrFold, api.ErrCross} {
		if seen[reason] < 10 {
			t.Errorf("the reason %v is asked for %d times", reason, seen[reason])
		}
	}
}

// fan is twice the area by triangles, all of them with the first point.
func fan(v []api.Point) *big.Int {
	sum := new(big.Int)
	for i := 2; i < len(v); i++ {
		sum.Add(sum, product(v[0], v[i-1], v[i]))
	}
	return sum.Abs(sum)
}

// product is the cross product of the ways from o to a and to b.
func product(o, a, b api.Point) *big.Int {
	ax, ay := int64(a.X)-int64(o.X), int64(a.Y)-int64(o.Y)
	bx, by := int64(b.X)-int64(o.X), int64(b.Y)-int64(o.Y)
	left := new(big.Int).Mul(big.NewInt(ax), big.NewInt(by))
	return left.Sub(left, new(big.Int).Mul(big.NewInt(ay), big.NewInt(bx)))
}

// P7.6, P7.10
func TestCountsAndArea(t *testing.T) {
	long, great := 0, 0
	for _, v := range rings() {
		var onEdge int64
		for i, a := range v {
			b := v[(i+1)%len(v)]
			x, y := big.NewInt(int64(b.X)-int64(a.X)), big.NewInt(int64(b.Y)-int64(a.Y))
			onEdge += new(big.Int).GCD(nil, nil, x.Abs(x), y.Abs(y)).Int64()
		}
		got := counted(v)
		sum := new(big.Int).Mul(big.NewInt(2), big.NewInt(got.within))
		sum.Add(sum, big.NewInt(got.edge-2))
		if got.reason != api.OK || got.edge != onEdge || sum.Cmp(fan(v)) != 0 {
			t.Errorf("%s: %v, want %d on the edge, and twice the area %v", text(v...), got, onEdge, fan(v))
		}
		if got.within < 0 || got.edge < int64(len(v)) {
			t.Errorf("%s: %v", text(v...), got)
		}
		if onEdge > 1<<30 {
			long++
		}
		if got.within > 1<<58 {
			great++
		}
	}
	if long < 20 || great < 20 {
		t.Errorf("%d rings with long sides, %d great ones", long, great)
	}
}

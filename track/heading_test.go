package track

import (
	"fmt"
	"math"
	"math/big"
	"math/rand"
	"testing"

	"paddock/api"
)

// within tells whether (x, y) is less than 22.5 degrees off (1, 0): whether x is above the length of (x, y) times the cosine of that, the square of which is (2 + √2) / 4.
func within(x, y *big.Int) bool {
	xx, yy := new(big.Int).Mul(x, x), new(big.Int).Mul(y, y)
	// 4xx > (2 + √2) (xx + yy), or 2 (xx - yy) > √2 (xx + yy).
	left := new(big.Int).Lsh(new(big.Int).Sub(xx, yy), 1)
	if x.Sign() <= 0 || left.Sign() <= 0 {
		return false
	}
	sum := new(big.Int).Add(xx, yy)
	return left.Mul(left, left).Cmp(sum.Lsh(sum.Mul(sum, sum), 1)) > 0
}

// wordSector is the sector whose middle is less than 22.5 degrees off: what is asked is turned, an eighth at a time, till that is (1, 0). (An eighth back makes (x + y, y - x) of (x, y), √2 times as long.)
func wordSector(t *testing.T, dx, dy int64) int {
	t.Helper()
	x, y := big.NewInt(dx), big.NewInt(dy)
	sector := -1
	for k := range 8 {
		if within(x, y) {
			if sector >= 0 {
				t.Errorf("(%d, %d) is of two sectors", dx, dy)
			}
			sector = k
		}
		x, y = new(big.Int).Add(x, y), new(big.Int).Sub(y, x)
	}
	return sector
}

// span is from where, and to where, a move of 32 bits goes that is so far along x, or along y.
func span(d int64) (from, to int32) {
	if d < 0 {
		return greatest, int32(greatest + d)
	}
	return least, int32(least + d)
}

// wantHeading fails, unless moves by these differences are told as the sector by the words, from where they are as far out as may be, and from 0, if that is within 32 bits.
func wantHeading(t *testing.T, dx, dy int64) int {
	t.Helper()
	want := wordSector(t, dx, dy)
	if want < 0 && (dx != 0 || dy != 0) {
		t.Errorf("(%d, %d) is of no sector", dx, dy)
	}
	x0, x1 := span(dx)
	y0, y1 := span(dy)
	if got := Heading(at(x0, y0), at(x1, y1)); got != want {
		t.Errorf("(%d, %d) out there: %d, want %d", dx, dy, got, want)
	}
	if int64(int32(dx)) == dx && int64(int32(dy)) == dy {
		if got := Heading(at(0, 0), at(int32(dx), int32(dy))); got != want {
			t.Errorf("(%d, %d) from 0: %d, want %d", dx, dy, got, want)
		}
	}
	return want
}

// wantHeadings fails, unless all eight moves of these sizes are told right.
func wantHeadings(t *testing.T, a, b int64) {
	t.Helper()
	for _, d := range [][2]int64{{a, b}, {b, a}, {-b, a}, {-a, b}, {-a, -b}, {-b, -a}, {b, -a}, {a, -b}} {
		wantHeading(t, d[0], d[1])
	}
}

// The chapter's table, and the middles of all sectors.
func TestExamplesOfHeading(t *testing.T) {
	for _, c := range []struct {
		q    api.Point
		want int
	}{
		{at(5, 2), 0}, {at(5, 3), 1}, {at(0, -7), 6}, {at(-1, -1), 5}, {at(0, 0), -1},
		{at(1, 0), 0}, {at(1, 1), 1}, {at(0, 1), 2}, {at(-1, 1), 3}, {at(-1, 0), 4}, {at(0, -1), 6}, {at(1, -1), 7},
		{at(3, 5), 1}, {at(2, 5), 2}, {at(-2, 5), 2}, {at(-3, 5), 3}, {at(-5, 3), 3}, {at(-5, 2), 4}, {at(-5, -2), 4}, {at(-5, -3), 5},
		{at(-3, -5), 5}, {at(-2, -5), 6}, {at(2, -5), 6}, {at(3, -5), 7}, {at(5, -3), 7}, {at(5, -2), 0},
	} {
		if got := Heading(at(0, 0), c.q); got != c.want {
			t.Errorf("Heading to %v: %d, want %d", c.q, got, c.want)
		}
	}
}

// P18.2: from a point to itself, wherever it is.
func TestHeadingOfNoMove(t *testing.T) {
	for _, p := range []api.Point{at(0, 0), at(1, -1), at(least, least), at(greatest, greatest), at(least, greatest), at(api.Bound, -api.Bound)} {
		if got := Heading(p, p); got != -1 {
			t.Errorf("from %v to itself: %d", p, got)
		}
	}
}

// P18.2: all short moves.
func TestHeadingsAllAround(t *testing.T) {
	counts := map[int]int{}
	for dx := int64(-40); dx <= 40; dx++ {
		for dy := int64(-40); dy <= 40; dy++ {
			counts[wantHeading(t, dx, dy)]++
		}
	}
	// Turned by quarters, and mirrored, the square of moves is itself.
	if counts[-1] != 1 || counts[0] != counts[2] || counts[2] != counts[4] || counts[4] != counts[6] || counts[1] != counts[3] || counts[3] != counts[5] || counts[5] != counts[7] {
		t.Errorf("told: %v", counts)
	}
}

// P18.2: the moves of 32 bits that are nearest to the bounds, on both sides of each: their sizes are neighbours in 1, 2, 5, 12, 29, each twice the last one and the one ahead of that.
func TestHeadingsAtTheBounds(t *testing.T) {
	sides := map[bool]int{}
	for a, b := int64(1), int64(0); a <= topmost; a, b = 2*a+b, a {
		if b > 0 {
			sides[wordSector(t, a, b) == 0]++
		}
		for da := int64(-2); da <= 2; da++ {
			for db := int64(-2); db <= 2; db++ {
				if a+da >= 0 && b+db >= 0 && a+da <= topmost {
					wantHeadings(t, a+da, b+db)
				}
			}
		}
	}
	if sides[true] < 10 || sides[false] < 10 {
		t.Errorf("on both sides: %v", sides)
	}
}

// P18.2: moves as far as 32 bits let them be: their squares and twice those are far above 32 bits, and some above 64.
func TestHeadingsFarOut(t *testing.T) {
	far := []int64{0, 1, 2, 3, 1<<30 - 1, 1 << 30, 1<<31 - 1, 1 << 31, 1<<31 + 1, 3037000499, 3037000500, 3037000501, topmost - 1, topmost}
	for _, a := range far {
		for _, b := range far {
			wantHeadings(t, a, b)
		}
	}
	random := rand.New(rand.NewSource(22))
	for range 20000 {
		a, b := int64(random.Uint32()), int64(random.Uint32())
		wantHeadings(t, a, b)
		// Just beside the bound, as near as whole numbers of this size are.
		wantHeadings(t, a, int64(float64(a)*(math.Sqrt2-1)))
		wantHeadings(t, a, int64(float64(a)*(math.Sqrt2-1))+1)
	}
}

// P18.2: the sector is that in which the angle is, wherever it is not right at a bound.
func TestHeadingsByAngle(t *testing.T) {
	random := rand.New(rand.NewSource(45))
	for range 50000 {
		p, q := anyPoint(random), anyPoint(random)
		if p == q {
			continue
		}
		angle := math.Atan2(float64(int64(q.Y)-int64(p.Y)), float64(int64(q.X)-int64(p.X))) / (math.Pi / 4)
		middle := math.Round(angle)
		if math.Abs(angle-middle) > 0.499999 {
			continue
		}
		if got, want := Heading(p, q), (int(middle)+8)%8; got != want {
			t.Errorf("%s: %d, want %d", fmt.Sprint(p, q), got, want)
		}
	}
}

// P18.2: the way back goes to the opposite sector.
func TestHeadingBack(t *testing.T) {
	random := rand.New(rand.NewSource(4))
	for range 20000 {
		p, q := anyPoint(random), anyPoint(random)
		there, back := Heading(p, q), Heading(q, p)
		if p != q && back != (there+4)%8 || p == q && back != -1 {
			t.Errorf("from %v to %v: %d, and back %d", p, q, there, back)
		}
	}
}

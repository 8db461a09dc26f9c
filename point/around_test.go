package point

import (
	"math/big"
	"testing"

	"paddock/api"
)

// along is how far a direction is along the square with the corners (1, 0), (0, 1), (-1, 0), (0, -1), whose sides have the length 1: from 0 to less than 4, and rising as one turns. That of no direction is -1.
func along(o, p api.Point) *big.Rat {
	x, y := difference(o, p)
	length := new(big.Int).Add(new(big.Int).Abs(x), new(big.Int).Abs(y))
	if length.Sign() == 0 {
		return big.NewRat(-1, 1)
	}
	height := new(big.Rat).SetFrac(y, length)
	switch {
	case x.Sign() < 0:
		return height.Sub(big.NewRat(2, 1), height)
	case y.Sign() < 0:
		return height.Add(big.NewRat(4, 1), height)
	}
	return height
}

// P4.6
func TestAround(t *testing.T) {
	var seen [3]int
	for _, x := range triples() {
		want := along(x.o, x.a).Cmp(along(x.o, x.b))
		seen[want+1]++
		if got := Around(x.o, x.a, x.b); got != want {
			t.Errorf("Around of %v: %d, want %d", x, got, want)
		}
	}
	if seen[0] == 0 || seen[1] == 0 || seen[2] == 0 {
		t.Errorf("not all answers are asked for: %v", seen)
	}
}

// rounds are points in the order of their directions from a middle, which stands first, no two directions alike.
func rounds() [][]api.Point {
	return [][]api.Point{
		{at(0, 0), at(1, 0), at(2, 1), at(1, 1), at(1, 2), at(0, 1), at(-1, 2), at(-1, 1), at(-2, 1), at(-1, 0), at(-2, -1), at(-1, -1), at(-1, -2), at(0, -1), at(1, -2), at(1, -1), at(2, -1)},
		{at(0, 0), at(greatest, 0), at(greatest, 1), at(greatest, greatest-1), at(greatest, greatest), at(0, greatest), at(-1, greatest), at(least, greatest), at(least, 1), at(least, 0), at(least, -1), at(least, least), at(-1, least), at(0, least), at(1, least), at(greatest, least), at(greatest, -1)},
		{at(least, least), at(greatest, least), at(greatest, least+1), at(greatest, greatest-1), at(greatest-1, greatest-1), at(greatest-1, greatest), at(least+1, greatest), at(least, greatest)},
		{at(greatest, greatest), at(greatest-1, greatest), at(least, greatest-1), at(least, least+1), at(least+1, least+1), at(least+1, least), at(greatest-1, least), at(greatest, least)},
	}
}

// P4.6
func TestAroundByHand(t *testing.T) {
	for _, round := range rounds() {
		for i, a := range round {
			for j, b := range round {
				want := 0
				if i < j {
					want = -1
				} else if i > j {
					want = 1
				}
				if got := Around(round[0], a, b); got != want {
					t.Errorf("Around(%v, %v, %v): %d, want %d", round[0], a, b, got, want)
				}
			}
		}
	}
	o := at(0, 0)
	for _, x := range []struct {
		a, b api.Point
		want int
	}{
		{at(1, 0), at(0, 1), -1}, {at(1, -1), at(-1, -1), 1}, {at(2, 2), at(5, 5), 0}, {at(0, 0), at(1, 0), -1},
		{at(1, 0), at(0, 0), 1}, {at(0, 0), at(0, 0), 0}, {at(3, 0), at(greatest, 0), 0}, {at(-3, 0), at(least, 0), 0},
		{at(1, 0), at(-1, 0), -1}, {at(0, -1), at(0, 1), 1}, {at(-2, -4), at(-3, -6), 0}, {at(2, 2), at(-5, -5), -1},
	} {
		if got := Around(o, x.a, x.b); got != x.want {
			t.Errorf("Around(0, %v, %v): %d, want %d", x.a, x.b, got, x.want)
		}
	}
}

// P4.9
func TestAroundIsAnOrder(t *testing.T) {
	for _, x := range triples() {
		if Around(x.o, x.a, x.b) != -Around(x.o, x.b, x.a) || Around(x.o, x.a, x.a) != 0 {
			t.Errorf("Around of %v does not turn over with its points", x)
		}
	}
	points := append(grid(-2, -1, 0, 1, 2), grid(least, 0, greatest)...)
	for _, o := range []api.Point{at(0, 0), at(1, -1), at(least, least), at(greatest, 0), at(0, greatest), at(5, 7)} {
		for _, a := range points {
			for _, b := range points {
				for _, c := range points {
					if Around(o, a, b) <= 0 && Around(o, b, c) <= 0 && Around(o, a, c) > 0 {
						t.Errorf("from %v: %v is not behind %v, nor that behind %v, but the first is behind the last", o, a, b, c)
					}
				}
			}
		}
	}
}

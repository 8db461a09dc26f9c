package point

import (
	"math/big"
	"testing"

	"paddock/api"
)

// P4.3
func TestProducts(t *testing.T) {
	exact, gone := 0, 0
	for _, x := range triples() {
		cross, dot, dist := bigCross(x.o, x.a, x.b), bigDot(x.o, x.a, x.b), bigDot(x.a, x.b, x.b)
		for _, v := range []*big.Int{cross, dot, dist} {
			switch {
			case !v.IsInt64():
				gone++
			case In(x.o) && In(x.a) && In(x.b):
				exact++
			}
		}
		if got := Cross(x.o, x.a, x.b); got != round(cross) {
			t.Errorf("Cross of %v: %d, want %v", x, got, cross)
		}
		if got := Dot(x.o, x.a, x.b); got != round(dot) {
			t.Errorf("Dot of %v: %d, want %v", x, got, dot)
		}
		if got := Dist2(x.a, x.b); got != round(dist) {
			t.Errorf("Dist2 of %v: %d, want %v", x, got, dist)
		}
	}
	if exact == 0 || gone == 0 {
		t.Error("none of these is of the lattice, or none goes round")
	}
}

// P4.3
func TestProductsByHand(t *testing.T) {
	const side = int64(2 * edge)
	for _, x := range []struct{ got, want int64 }{
		{Cross(at(0, 0), at(2, 0), at(0, 3)), 6},
		{Cross(at(0, 0), at(0, 3), at(2, 0)), -6},
		{Cross(at(1, 1), at(3, 1), at(1, 4)), 6},
		{Cross(at(5, 5), at(5, 5), at(9, 1)), 0},
		{Dot(at(0, 0), at(2, 0), at(0, 3)), 0},
		{Dot(at(1, 1), at(3, 4), at(-1, 2)), -1},
		{Dist2(at(0, 0), at(3, 4)), 25},
		{Dist2(at(3, 4), at(0, 0)), 25},
		{Dist2(at(7, 7), at(7, 7)), 0},
		// The lattice's ends: exact.
		{Cross(at(-edge, -edge), at(edge, -edge), at(-edge, edge)), side * side},
		{Cross(at(-edge, -edge), at(-edge, edge), at(edge, -edge)), -side * side},
		{Cross(at(0, 0), at(edge, -edge), at(edge, edge)), 2 * edge * edge},
		{Dot(at(-edge, -edge), at(edge, edge), at(edge, edge)), 2 * side * side},
		{Dist2(at(-edge, edge), at(edge, -edge)), 2 * side * side},
		// Beyond it: modulo 2^64. (2^32 - 1)^2 is 1 - 2^33 there, and (2^31)^2 twice is 2^63.
		{Dist2(at(least, 0), at(greatest, 0)), 1 - 1<<33},
		{Dist2(at(least, least), at(greatest, greatest)), 2 - 1<<34},
		{Dist2(at(least, least), at(0, 0)), -1 << 63},
		{Cross(at(least, least), at(greatest, least), at(least, greatest)), 1 - 1<<33},
		{Dot(at(greatest, 0), at(least, 0), at(least, 0)), 1 - 1<<33},
	} {
		if x.got != x.want {
			t.Errorf("%d, want %d", x.got, x.want)
		}
	}
}

// P4.4
func TestTurn(t *testing.T) {
	gone := 0
	for _, x := range triples() {
		cross := bigCross(x.o, x.a, x.b)
		if got := Turn(x.o, x.a, x.b); got != cross.Sign() {
			t.Errorf("Turn of %v: %d, want %d", x, got, cross.Sign())
		}
		if big.NewInt(round(cross)).Sign() != cross.Sign() {
			gone++
		}
	}
	if gone == 0 {
		t.Error("none of these would show that a product went round")
	}
}

// P4.4
func TestTurnByHand(t *testing.T) {
	for _, x := range []struct {
		o, a, b api.Point
		want    int
	}{
		{at(0, 0), at(1, 0), at(0, 1), 1},
		{at(0, 0), at(1, 0), at(0, -1), -1},
		{at(0, 0), at(1, 0), at(5, 0), 0},
		{at(0, 0), at(1, 0), at(-5, 0), 0},
		{at(3, 3), at(3, 3), at(9, 1), 0},
		{at(3, 3), at(9, 1), at(3, 3), 0},
		{at(3, 3), at(9, 1), at(9, 1), 0},
		{at(3, 3), at(3, 3), at(3, 3), 0},
		{at(-edge, -edge), at(edge, edge), at(edge-1, edge-1), 0},
		{at(-edge, -edge), at(edge, edge), at(edge-1, edge), 1},
		{at(-edge, -edge), at(edge, edge), at(edge, edge-1), -1},
		{at(least, least), at(greatest, least), at(greatest, greatest), 1},
		{at(least, least), at(greatest, greatest), at(greatest-1, greatest-1), 0},
		{at(least, least), at(greatest, greatest), at(greatest-1, greatest), 1},
		{at(least, least), at(greatest, greatest), at(greatest, greatest-1), -1},
		{at(least, greatest), at(greatest, least), at(greatest, greatest), 1},
		{at(least, greatest), at(greatest, least), at(least, least), -1},
	} {
		if got := Turn(x.o, x.a, x.b); got != x.want {
			t.Errorf("%v: %d, want %d", x, got, x.want)
		}
	}
}

// onSegment is P4.5 by lengths along the line: from a on, p lies from 0 to the segment's length.
func onSegment(p, a, b api.Point) bool {
	if a.X == b.X && a.Y == b.Y {
		return p.X == a.X && p.Y == a.Y
	}
	along := bigDot(a, b, p)
	return bigCross(a, b, p).Sign() == 0 && along.Sign() >= 0 && along.Cmp(bigDot(a, b, b)) <= 0
}

// P4.5
func TestOn(t *testing.T) {
	on, lined := 0, 0
	for _, x := range triples() {
		want := onSegment(x.o, x.a, x.b)
		if got := On(x.o, x.a, x.b); got != want {
			t.Errorf("On(%v, %v, %v): %v", x.o, x.a, x.b, got)
		}
		if want {
			on++
		} else if bigCross(x.o, x.a, x.b).Sign() == 0 {
			lined++
		}
	}
	if on == 0 || lined == 0 {
		t.Error("none of these is on its segment, or none on its line alone")
	}
}

// P4.5
func TestOnByHand(t *testing.T) {
	for _, x := range []struct {
		p, a, b api.Point
		want    bool
	}{
		{at(1, 1), at(0, 0), at(2, 2), true},
		{at(1, 1), at(2, 2), at(0, 0), true},
		{at(0, 0), at(0, 0), at(2, 2), true},
		{at(2, 2), at(0, 0), at(2, 2), true},
		{at(3, 3), at(0, 0), at(2, 2), false},
		{at(-1, -1), at(0, 0), at(2, 2), false},
		{at(1, 0), at(0, 0), at(2, 2), false},
		{at(1, 1), at(0, 2), at(2, 0), true},
		{at(5, 3), at(5, 0), at(5, 9), true},
		{at(5, -1), at(5, 0), at(5, 9), false},
		{at(5, 10), at(5, 9), at(5, 0), false},
		{at(4, 0), at(0, 0), at(4, 0), true},
		{at(5, 0), at(0, 0), at(4, 0), false},
		{at(1, 1), at(1, 1), at(1, 1), true},
		{at(1, 2), at(1, 1), at(1, 1), false},
		{at(0, 0), at(1, 1), at(1, 1), false},
		{at(least, greatest), at(least, greatest), at(least, greatest), true},
		{at(0, 0), at(least, least), at(greatest, greatest), true},
		{at(0, 1), at(least, least), at(greatest, greatest), false},
		{at(0, -1), at(least, greatest), at(greatest, least), true},
		{at(0, 0), at(least, greatest), at(greatest, least), false},
		{at(greatest, 0), at(least, 0), at(greatest, 0), true},
		{at(greatest, 0), at(least, 0), at(greatest-1, 0), false},
	} {
		if got := On(x.p, x.a, x.b); got != x.want {
			t.Errorf("%v: %v", x, got)
		}
	}
}

// P4.8
func TestTurnsAlike(t *testing.T) {
	for _, x := range triples() {
		turn := Turn(x.o, x.a, x.b)
		if Turn(x.a, x.b, x.o) != turn || Turn(x.b, x.o, x.a) != turn {
			t.Errorf("Turn of %v is not that of its points taken round", x)
		}
		if Turn(x.o, x.b, x.a) != -turn {
			t.Errorf("Turn of %v is not the other one of its points changed", x)
		}
		box, _ := Bounds(x.a, x.b)
		if On(x.o, x.a, x.b) != (Turn(x.a, x.b, x.o) == 0 && Has(box, x.o)) {
			t.Errorf("On of %v is not by Turn and box", x)
		}
	}
}

// shifted is p, moved by (dx, dy), and whether no coordinate goes round.
func shifted(p api.Point, dx, dy int64) (api.Point, bool) {
	x, y := int64(p.X)+dx, int64(p.Y)+dy
	return at(int32(x), int32(y)), x == int64(int32(x)) && y == int64(int32(y))
}

// P4.8
func TestTurnStaysWhenShifted(t *testing.T) {
	ways := []int64{0, 1, -1, 12345, -edge, edge, 1 << 31, -1 << 31, 1<<32 - 1, 1 - 1<<32}
	moved := 0
	for _, x := range triples() {
		for i, dx := range ways {
			dy := ways[(i*7+3)%len(ways)]
			o, in := shifted(x.o, dx, dy)
			a, too := shifted(x.a, dx, dy)
			b, three := shifted(x.b, dx, dy)
			if !in || !too || !three {
				continue
			}
			moved++
			if Turn(o, a, b) != Turn(x.o, x.a, x.b) {
				t.Errorf("Turn of %v changes when shifted by %d, %d", x, dx, dy)
			}
		}
	}
	if moved < len(triples()) {
		t.Errorf("only %d were shifted", moved)
	}
}

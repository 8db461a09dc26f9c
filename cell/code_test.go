package cell

import (
	"math"
	"math/rand"
	"testing"

	"paddock/api"
)

// coded is P11.5 by the words: bit by bit.
func coded(c api.Cell) uint64 {
	u, v := uint64(int64(c.X)+1<<31), uint64(int64(c.Y)+1<<31)
	var n uint64
	for i := range 32 {
		n += u >> i % 2 << (2 * i)
		n += v >> i % 2 << (2*i + 1)
	}
	return n
}

// cells are cells of the least and the greatest coordinates, of one bit and of all but one, of all bits and of anywhere; the same in each run.
func cells() []api.Cell {
	numbers := []int32{least, least + 1, -2, -1, 0, 1, 2, greatest - 1, greatest, 0x55555555, -0x55555556, 0x33333333, 0x0f0f0f0f, 0x00ff00ff, 0x0000ffff, 0x12345678}
	for i := range 32 {
		numbers = append(numbers, int32(uint32(1)<<i), int32(^(uint32(1) << i)))
	}
	var list []api.Cell
	for _, p := range grid(numbers...) {
		list = append(list, api.Cell(p))
	}
	r := rand.New(rand.NewSource(8))
	for range 5000 {
		list = append(list, api.Cell(spread32(r)), api.Cell(anywhere(r)))
	}
	return list
}

// P11.5, P11.9
func TestCode(t *testing.T) {
	for _, c := range cells() {
		n := Code(c)
		if n != coded(c) {
			t.Errorf("Code(%v): %d, want %d", c, n, coded(c))
		}
		if back := Decode(n); back != c {
			t.Errorf("Decode(Code(%v)): %v", c, back)
		}
	}
}

// P11.5, P11.9
func TestDecode(t *testing.T) {
	list := []uint64{0, 1, 2, 3, 4, math.MaxUint64, math.MaxUint64 - 1, math.MaxUint64 - 2, 0x5555555555555555, 0xaaaaaaaaaaaaaaaa, 1<<63 - 1, 1 << 63, 3 << 62, 1<<32 - 1, 1 << 32}
	for i := range 64 {
		list = append(list, 1<<i, ^(uint64(1) << i))
	}
	r := rand.New(rand.NewSource(9))
	for range 20000 {
		list = append(list, r.Uint64(), r.Uint64()>>r.Intn(64))
	}
	for _, n := range list {
		c := Decode(n)
		if coded(c) != n || Code(c) != n {
			t.Errorf("Decode(%d): %v, whose code is %d, by Code %d", n, c, coded(c), Code(c))
		}
	}
}

// P11.5
func TestCodeByHand(t *testing.T) {
	const middle = 13835058055282163712
	for _, x := range []struct {
		c    api.Cell
		want uint64
	}{
		{cellOf(0, 0), middle},
		{cellOf(1, 0), middle + 1},
		{cellOf(0, 1), middle + 2},
		{cellOf(1, 1), middle + 3},
		{cellOf(2, 0), middle + 4},
		{cellOf(0, 2), middle + 8},
		{cellOf(3, 5), middle + 39},
		{cellOf(-1, -1), 4611686018427387903},
		{cellOf(-1, 0), 0x9555555555555555},
		{cellOf(0, -1), 0x6aaaaaaaaaaaaaaa},
		{cellOf(least, least), 0},
		{cellOf(least+1, least), 1},
		{cellOf(least, least+1), 2},
		{cellOf(greatest, least), 0x5555555555555555},
		{cellOf(least, greatest), 0xaaaaaaaaaaaaaaaa},
		{cellOf(greatest, greatest), math.MaxUint64},
		{cellOf(greatest-1, greatest), math.MaxUint64 - 1},
		{cellOf(greatest, greatest-1), math.MaxUint64 - 2},
	} {
		if got := Code(x.c); got != x.want {
			t.Errorf("Code(%v): %d, want %d", x.c, got, x.want)
		}
		if got := Decode(x.want); got != x.c {
			t.Errorf("Decode(%d): %v, want %v", x.want, got, x.c)
		}
	}
}

// P11.9: of two cells whose coordinates are at most as great, both, the codes are in that order; of unlike cells they are unlike.
func TestCodesRise(t *testing.T) {
	list := cells()
	ordered := 0
	for i, a := range list {
		for _, b := range list[i%37 : min(i%37+300, len(list))] {
			if a.X > b.X || a.Y > b.Y {
				continue
			}
			ordered++
			if Code(a) > Code(b) || (Code(a) == Code(b)) != (a == b) {
				t.Errorf("the codes of %v and %v: %d, %d", a, b, Code(a), Code(b))
			}
		}
	}
	if ordered < 1000 {
		t.Errorf("%d cells in order", ordered)
	}
}

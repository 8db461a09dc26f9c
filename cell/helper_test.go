package cell

import (
	"iter"
	"math"
	"math/big"
	"math/rand"
	"slices"
	"testing"
	"time"

	"paddock/api"
)

const (
	edge     = api.Bound
	least    = math.MinInt32
	greatest = math.MaxInt32
)

func at(x, y int32) api.Point { return api.Point{X: x, Y: y} }

func boxOf(x, y, z, w int32) api.Box { return api.Box{Min: at(x, y), Max: at(z, w)} }

func cellOf(x, y int32) api.Cell { return api.Cell{X: x, Y: y} }

// cellsOf makes cells out of coordinates.
func cellsOf(c ...int32) []api.Cell {
	var list []api.Cell
	for i := 0; i+1 < len(c); i += 2 {
		list = append(list, cellOf(c[i], c[i+1]))
	}
	return list
}

// grid are all points whose coordinates are among these.
func grid(coordinates ...int32) []api.Point {
	var list []api.Point
	for _, x := range coordinates {
		for _, y := range coordinates {
			list = append(list, at(x, y))
		}
	}
	return list
}

// from are the whole numbers from one to another.
func from(a, b int32) []int32 {
	var list []int32
	for n := int64(a); n <= int64(b); n++ {
		list = append(list, int32(n))
	}
	return list
}

func onLattice(p api.Point) bool {
	x, y := max(int64(p.X), -int64(p.X)), max(int64(p.Y), -int64(p.Y))
	return max(x, y) <= edge
}

// sizes are sizes that may be, the least and the greatest among them.
func sizes() []int64 {
	return []int64{1, 2, 3, 4, 7, 10, 1000, 1<<20 + 1, edge - 1, edge, edge + 1, 1<<31 - 1, api.MaxCell}
}

// noSizes are numbers that are no size.
func noSizes() []int64 {
	return []int64{math.MinInt64, math.MinInt64 + 1, -api.MaxCell - 1, -api.MaxCell, -10, -2, -1, 0, api.MaxCell + 1, 1 << 32, 1<<32 + 1, 1<<32 + 10, 1 << 62, math.MaxInt64}
}

// outside are points that are not of the lattice: one beyond its edge in one coordinate or both, and at the ends of int32.
func outside() []api.Point {
	var list []api.Point
	for _, p := range grid(least, -edge-1, -edge, 0, edge, edge+1, greatest) {
		if !onLattice(p) {
			list = append(list, p)
		}
	}
	return list
}

// bounded is a number of n bits at most, above 0 or below, n up to 30.
func bounded(r *rand.Rand) int32 {
	n := int32(r.Intn(edge+1)) >> r.Intn(31)
	if r.Intn(2) == 0 {
		return -n
	}
	return n
}

// anywhere is a point of the lattice, of any size.
func anywhere(r *rand.Rand) api.Point { return at(bounded(r), bounded(r)) }

// spread32 is a point of anywhere at all.
func spread32(r *rand.Rand) api.Point { return at(int32(r.Uint32()), int32(r.Uint32())) }

// begins is x times size, without a bound.
func begins(x int64, size int64) *big.Int {
	return new(big.Int).Mul(big.NewInt(x), big.NewInt(size))
}

// holds is the words' own: x times size is at most u, and that is below x + 1 times size.
func holds(x int32, u int32, size int64) bool {
	n := big.NewInt(int64(u))
	return begins(int64(x), size).Cmp(n) <= 0 && n.Cmp(begins(int64(x)+1, size)) < 0
}

// nothing fails, if an iterator tells something, or is none.
func nothing(t *testing.T, what string, told iter.Seq[api.Cell]) {
	t.Helper()
	if told == nil {
		t.Errorf("%s: no iterator", what)
		return
	}
	for c := range told {
		t.Errorf("%s tells %v", what, c)
		return
	}
}

// firstOf are the first n cells that an iterator tells, or all of them, if they are fewer.
func firstOf(n int, told iter.Seq[api.Cell]) []api.Cell {
	var list []api.Cell
	for c := range told {
		list = append(list, c)
		if len(list) == n {
			break
		}
	}
	return list
}

// soon fails, if what is done takes very much longer than it should.
func soon(t *testing.T, what string, do func()) {
	t.Helper()
	done := make(chan struct{})
	go func() {
		defer close(done)
		do()
	}()
	select {
	case <-done:
	case <-time.After(time.Minute):
		t.Fatalf("%s: still not done", what)
	}
}

// wantIterator fails, unless an iterator that tells these cells can be left behind each of them, and is asked no more then; can be gone over again, and within itself.
func wantIterator(t *testing.T, what string, told iter.Seq[api.Cell], want []api.Cell) {
	t.Helper()
	for n := 1; n <= len(want)+1; n++ {
		var got []api.Cell
		told(func(c api.Cell) bool {
			got = append(got, c)
			return len(got) < n
		})
		if !slices.Equal(got, want[:min(n, len(want))]) {
			t.Errorf("%s, left behind %d: %v, want a beginning of %v", what, n, got, want)
		}
	}
	var within []api.Cell
	for c := range told {
		within = append(within, c)
		if again := slices.Collect(told); !slices.Equal(again, want) {
			t.Errorf("%s, within itself: %v, want %v", what, again, want)
		}
	}
	if !slices.Equal(within, want) {
		t.Errorf("%s, about itself: %v, want %v", what, within, want)
	}
}

package finder

import (
	"fmt"
	"math"
	"slices"
	"testing"

	"paddock/api"
)

// The chapter's table, with each index and many sizes.
func TestExamples(t *testing.T) {
	for _, k := range []kind{{3, 1}, {0, 0}} {
		if f, e := New(k.index, k.size); f != nil || e != api.ErrArg {
			t.Errorf("New(%d, %d): %v, %d", k.index, k.size, f, e)
		}
	}
	b, c := box(0, 0, 4, 4), box(4, 4, 9, 9)
	for _, k := range kinds() {
		f := made(t, k)
		codes := []api.Errno{f.Put(7, b), f.Put(7, c), f.Put(3, c), f.Put(4, box(1, 0, 0, 0))}
		if want := []api.Errno{api.OK, api.ErrThere, api.OK, api.ErrBox}; !slices.Equal(codes, want) || f.Len() != 2 {
			t.Errorf("%v: Put: %v, want %v; Len: %d", k, codes, want, f.Len())
		}
		wantTold(t, k, "At((4,4))", f.At(at(4, 4)), 3, 7)
		wantTold(t, k, "At((5,5))", f.At(at(5, 5)), 3)
		wantTold(t, k, "At((2000000000,0))", f.At(at(2000000000, 0)))
		wantTold(t, k, "Crossing((0,9), (9,0))", f.Crossing(at(0, 9), at(9, 0)), 3)
		wantTold(t, k, "Crossing((0,8), (8,0))", f.Crossing(at(0, 8), at(8, 0)), 3, 7)
		wantTold(t, k, "Crossing((5,0), (9,3))", f.Crossing(at(5, 0), at(9, 3)))
		wantTold(t, k, "Crossing((3,5), (5,6))", f.Crossing(at(3, 5), at(5, 6)), 3)
		wantErr(t, k, "Del(7)", f.Del(7), api.OK)
		wantErr(t, k, "Del(7) again", f.Del(7), api.ErrGone)
		wantTold(t, k, "At((0,0))", f.At(at(0, 0)))
	}
}

// P14.1: which indexes and sizes there are, each with each.
func TestNew(t *testing.T) {
	indexes := []int{math.MinInt, -3, -1, 0, 1, 2, 3, 4, 256, 1 << 32, 1<<32 + 1, math.MaxInt}
	sizes := []int64{
		math.MinInt64, -api.MaxCell - 1, -api.MaxCell, -2, -1, 0, 1, 2, 3, 1000, edge, 1<<31 - 1, 1 << 31,
		1<<31 + 1, 1 << 32, 1<<32 + 1, 1 << 62, math.MaxInt64,
	}
	for _, index := range indexes {
		for _, size := range sizes {
			f, e := New(index, size)
			if index >= 0 && index <= 2 && size >= 1 && size <= 2147483648 {
				if f == nil || e != api.OK {
					t.Errorf("New(%d, %d): %v, %d", index, size, f, e)
					continue
				}
				words{}.same(t, kind{index, size}, "a new one", f, pointsOf(-edge, 0, edge))
				continue
			}
			if f != nil || e != api.ErrArg {
				t.Errorf("New(%d, %d): %v, %d, want ErrArg", index, size, f, e)
			}
		}
	}
}

// P14.1: two finders have nothing in common.
func TestNewApart(t *testing.T) {
	for _, k := range kinds() {
		f, g := made(t, k), made(t, k)
		put(t, f, 1, whole())
		words{}.same(t, k, "the other one", g, pointsOf(-edge, 0, edge))
		put(t, g, 1, dot(0, 0))
		del(t, f, 1)
		words{1: dot(0, 0)}.same(t, k, "the other one, with a box", g, pointsOf(-edge, 0, edge))
	}
}

// P14.2: a box that is right goes in, and is found at its corners.
func TestPutRight(t *testing.T) {
	for _, k := range kinds() {
		for i, b := range rightBoxes() {
			f := made(t, k)
			put(t, f, uint32(i), b)
			words{uint32(i): b}.same(t, k, fmt.Sprint(b), f, []api.Point{b.Min, b.Max, at(b.Min.X, b.Max.Y), at(b.Max.X, b.Min.Y), at(0, 0)})
			wantTold(t, k, "its corner", f.At(b.Max), uint32(i))
		}
	}
}

// P14.2: a box that is not right is refused, ahead of all else, and nothing has changed.
func TestPutWrong(t *testing.T) {
	for _, k := range kinds() {
		w := words{0: box(0, 0, 5, 5), 8: whole()}
		f := holding(t, k, w)
		for _, b := range wrongBoxes() {
			for _, id := range []uint32{0, 1, 8, topmost} {
				wantErr(t, k, fmt.Sprint("Put ", id, b), f.Put(id, b), api.ErrBox)
			}
			wantErr(t, k, "Del of what was refused", f.Del(1), api.ErrGone)
		}
		w.same(t, k, "behind what was refused", f, pointsOf(-edge-1, -edge, 0, 5, 6, edge, edge+1))
	}
}

// P14.2: a number that has a box keeps it.
func TestPutThere(t *testing.T) {
	for _, k := range kinds() {
		w := words{0: box(0, 0, 5, 5), 7: dot(9, 9), topmost: box(-5, -5, 0, 0)}
		f := holding(t, k, w)
		for id := range w {
			for _, b := range rightBoxes() {
				wantErr(t, k, fmt.Sprint("Put ", id, b), f.Put(id, b), api.ErrThere)
			}
			wantErr(t, k, "Put of what it has", f.Put(id, w[id]), api.ErrThere)
		}
		w.same(t, k, "behind what was refused", f, pointsOf(-edge, -6, -5, 0, 5, 6, 9, edge))
	}
}

// P14.2: what is gone, and what never was; a number that is given free may be taken again, by another box.
func TestDel(t *testing.T) {
	for _, k := range kinds() {
		f := made(t, k)
		for _, id := range []uint32{0, 1, 1 << 31, topmost} {
			wantErr(t, k, "Del of nothing", f.Del(id), api.ErrGone)
		}
		w := words{0: box(0, 0, 5, 5), 7: whole(), topmost: box(-5, -5, 0, 0)}
		for id, b := range w {
			put(t, f, id, b)
		}
		points := pointsOf(-edge, -5, 0, 3, 5, 100, edge)
		for _, id := range []uint32{1, 6, 8, topmost - 1} {
			wantErr(t, k, "Del of another one", f.Del(id), api.ErrGone)
		}
		w.same(t, k, "behind what was refused", f, points)
		for _, id := range []uint32{7, topmost, 0} {
			wantErr(t, k, "Del", f.Del(id), w.del(id))
			w.same(t, k, "taken out", f, points)
			wantErr(t, k, "Del again", f.Del(id), api.ErrGone)
		}
		for id, b := range map[uint32]api.Box{0: whole(), 7: dot(3, 3), topmost: box(0, 0, 5, 5)} {
			wantErr(t, k, "Put again", f.Put(id, b), w.put(id, b))
		}
		w.same(t, k, "put in again", f, points)
	}
}

// full is a finder with as many boxes as there may be: a point each, in 256 rows.
func full(t *testing.T, k kind) Finder {
	t.Helper()
	f := made(t, k)
	for i := range uint32(65536) {
		if e := f.Put(3*i, dot(int32(i%256), int32(i/256))); e != api.OK || f.Len() != int(i)+1 {
			t.Fatalf("%v: Put of box %d: %d; Len: %d", k, i+1, e, f.Len())
		}
	}
	return f
}

// P14.2: the MaxBoxes-th box goes in, one more does not; the other errors come ahead of that.
func TestFull(t *testing.T) {
	if api.MaxBoxes != 65536 {
		t.Fatalf("MaxBoxes: %d", api.MaxBoxes)
	}
	for _, k := range []kind{{api.IndexScan, 1}, {api.IndexGrid, 1}, {api.IndexGrid, 100}, {api.IndexGrid, api.MaxCell}, {api.IndexTree, 1}} {
		f := full(t, k)
		for _, id := range []uint32{1, 2, 196606, 196608, topmost} {
			wantErr(t, k, "one more", f.Put(id, dot(0, 0)), api.ErrFull)
			wantErr(t, k, "one more, not right", f.Put(id, box(1, 0, 0, 0)), api.ErrBox)
			wantErr(t, k, "Del of one more", f.Del(id), api.ErrGone)
		}
		wantErr(t, k, "one that is there", f.Put(196605, dot(0, 0)), api.ErrThere)
		wantErr(t, k, "one that is there, not right", f.Put(0, dot(edge+1, 0)), api.ErrBox)
		wantTold(t, k, "the first", f.At(at(0, 0)), 0)
		wantTold(t, k, "the last", f.At(at(255, 255)), 196605)
		wantTold(t, k, "beside the last", f.At(at(256, 255)))
		wantBoth(t, k, "aslant", f, at(-1, 257), at(3, 253), 3*(253*256+3), 3*(254*256+2), 3*(255*256+1))
		if n := len(slices.Collect(f.Crossing(at(-edge, 7), at(edge, 7)))); n != 256 {
			t.Errorf("%v: a row: %d", k, n)
		}
		del(t, f, 3*700)
		if f.Len() != 65535 {
			t.Errorf("%v: Len behind Del: %d", k, f.Len())
		}
		wantErr(t, k, "one that is there, a place free", f.Put(0, dot(0, 0)), api.ErrThere)
		wantErr(t, k, "in the free place", f.Put(topmost, dot(0, 0)), api.OK)
		wantErr(t, k, "full again", f.Put(3*700, dot(0, 0)), api.ErrFull)
		wantTold(t, k, "two at the first", f.At(at(0, 0)), 0, topmost)
	}
}

// P14.2: all numbers are as good as any other, and told in their order as numbers from 0 on.
func TestNumbers(t *testing.T) {
	ids := []uint32{topmost, 0, 1 << 31, 1, 1<<31 - 1, topmost - 1, 1<<31 + 1, 65536, 65535, 256, 255}
	rising := slices.Sorted(slices.Values(ids))
	for _, k := range kinds() {
		f := made(t, k)
		for _, id := range ids {
			put(t, f, id, box(-1, -1, 1, 1))
		}
		wantTold(t, k, "At", f.At(at(1, -1)), rising...)
		wantBoth(t, k, "Crossing", f, at(-9, 1), at(9, 1), rising...)
		for i, id := range rising {
			del(t, f, id)
			wantTold(t, k, "At", f.At(at(0, 0)), rising[i+1:]...)
		}
		if f.Len() != 0 {
			t.Errorf("%v: Len of none: %d", k, f.Len())
		}
	}
}

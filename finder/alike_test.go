package finder

import (
	"fmt"
	"maps"
	"math/rand"
	"slices"
	"testing"

	"paddock/api"
)

// P14.2 to P14.4: any course of puttings in and takings out, right and wrong ones, of finders of every kind at once, held against the chapter's words at every step.
func TestAlike(t *testing.T) {
	r := rand.New(rand.NewSource(14))
	codes := map[api.Errno]int{}
	told := 0
	for range 25 {
		w := words{}
		finders := map[kind]Finder{}
		for _, k := range append(kinds(), kind{api.IndexGrid, 1 + r.Int63n(api.MaxCell)>>r.Intn(31)}) {
			finders[k] = made(t, k)
		}
		for range 60 {
			id := uint32(r.Intn(20))
			if r.Intn(8) == 0 {
				id = topmost - id
			}
			b := api.Box{Min: somePoint(r), Max: somePoint(r)}
			if r.Intn(3) > 0 {
				b = between(b.Min, b.Max)
			}
			p, q := somePoint(r), somePoint(r)
			putting := r.Intn(4) > 0
			code := done(w, putting, id, b)
			codes[code]++
			here, way := w.at(p), w.crossing(p, q)
			told += len(way)
			for k, f := range finders {
				wantErr(t, k, fmt.Sprint(putting, id, b), doneTo(f, putting, id, b), code)
				wantTold(t, k, fmt.Sprint("At ", p), f.At(p), here...)
				wantTold(t, k, fmt.Sprint("Crossing ", p, q), f.Crossing(p, q), way...)
				if f.Len() != len(w) {
					t.Errorf("%v: Len: %d, want %d", k, f.Len(), len(w))
				}
			}
		}
	}
	for _, code := range []api.Errno{api.OK, api.ErrThere, api.ErrGone, api.ErrBox} {
		if codes[code] < 20 {
			t.Errorf("answered %d: %d times", code, codes[code])
		}
	}
	if told < 1000 {
		t.Errorf("%d told of ways", told)
	}
}

// done puts in or takes out, by the words.
func done(w words, putting bool, id uint32, b api.Box) api.Errno {
	if putting {
		return w.put(id, b)
	}
	return w.del(id)
}

// doneTo does the same to a finder.
func doneTo(f Finder, putting bool, id uint32, b api.Box) api.Errno {
	if putting {
		return f.Put(id, b)
	}
	return f.Del(id)
}

// orders hands out every order of the numbers from 0 to n - 1.
func orders(n int, each func([]uint32)) {
	list := make([]uint32, 0, n)
	var more func()
	more = func() {
		if len(list) == n {
			each(slices.Clone(list))
			return
		}
		for id := range uint32(n) {
			if !slices.Contains(list, id) {
				list = append(list, id)
				more()
				list = list[:len(list)-1]
			}
		}
	}
	more()
}

// fewBoxes are some that share edges, corners, cells, points.
func fewBoxes() words {
	return words{0: box(0, 0, 4, 4), 1: box(4, 4, 9, 9), 2: dot(4, 4), 3: whole()}
}

// P14.2, P14.4: every order of putting in and of taking out of a few boxes, of each kind.
func TestEveryOrder(t *testing.T) {
	boxes := fewBoxes()
	points := []api.Point{at(4, 4), at(0, 0), at(9, 0), at(0, 9), at(5, 6)}
	tried := 0
	orders(len(boxes), func(in []uint32) {
		orders(len(boxes), func(out []uint32) {
			tried++
			for _, k := range fewKinds() {
				f, w := made(t, k), words{}
				for _, id := range in {
					wantErr(t, k, "Put", f.Put(id, boxes[id]), w.put(id, boxes[id]))
				}
				w.same(t, k, "all put in", f, points)
				for _, id := range out {
					wantErr(t, k, "Del", f.Del(id), w.del(id))
					wantErr(t, k, "Del again", f.Del(id), api.ErrGone)
					wantTold(t, k, "At behind Del", f.At(at(4, 4)), w.at(at(4, 4))...)
				}
				if f.Len() != 0 {
					t.Errorf("%v: Len behind all: %d", k, f.Len())
				}
			}
		})
	})
	if tried != 24*24 {
		t.Errorf("%d orders", tried)
	}
}

// P14.2, P14.4: every course of six turnings over of three boxes: what is there goes out, what is not goes in.
func TestEveryCourse(t *testing.T) {
	boxes := fewBoxes()
	points := []api.Point{at(4, 4), at(0, 8), at(8, 0), at(9, 9)}
	for course := range 3 * 3 * 3 * 3 * 3 * 3 {
		for _, k := range fewKinds() {
			f, w := made(t, k), words{}
			for n, left := 0, course; n < 6; n, left = n+1, left/3 {
				id := uint32(left%3) + 1
				_, there := w[id]
				wantErr(t, k, "turned over", doneTo(f, !there, id, boxes[id]), done(w, !there, id, boxes[id]))
			}
			w.same(t, k, fmt.Sprint("course ", course), f, points)
		}
	}
}

// P14.2, P14.4: a putting in and a taking out of what it put leave every answer as it was; so does all that is refused.
func TestUndone(t *testing.T) {
	r := rand.New(rand.NewSource(41))
	points := pointsOf(-edge-1, -edge, -4, 0, 7, edge)
	for _, k := range kinds() {
		w := words{}
		for range 12 {
			w.put(uint32(r.Intn(1000)), between(somePoint(r), somePoint(r)))
		}
		f := holding(t, k, w)
		for range 30 {
			b := between(anywhere(r), anywhere(r))
			put(t, f, 5000, b)
			f.Put(5000, whole())
			f.Put(6000, box(1, 0, 0, 0))
			del(t, f, 5000)
			f.Del(5000)
		}
		w.same(t, k, "put in and taken out", f, points)
		for _, id := range slices.Sorted(maps.Keys(w)) {
			del(t, f, id)
			put(t, f, id, w[id])
		}
		w.same(t, k, "taken out and put in", f, points)
	}
}

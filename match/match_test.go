package match

import (
	"fmt"
	"math"
	"testing"

	"paddock/api"
	"paddock/track"
)

// P19.1: each wrong number of objects and of fences, each wrong index and size of cells, and the least and the greatest right ones; what else a Config has is not looked at.
func TestNew(t *testing.T) {
	numbers := []int{math.MinInt, -64, -1, 0, 1, 2, 63, 64, 65, 128, math.MaxInt}
	indexes := []int{math.MinInt, -1, 0, 1, 2, 3, 4, math.MaxInt}
	cells := []int64{math.MinInt64, -1, 0, 1, 2, api.MaxCell - 1, api.MaxCell, api.MaxCell + 1, 1 << 32, math.MaxInt64}
	right := func(n int) bool { return n >= 1 && n <= 64 }
	for _, objects := range numbers {
		for _, fences := range numbers {
			for _, index := range indexes {
				for _, cell := range cells {
					c := api.Config{Objects: objects, Fences: fences, Index: index, Cell: cell}
					ok := right(objects) && right(fences) && index >= 0 && index <= 2 && cell >= 1 && cell <= 1<<31
					wantNew(t, c, ok)
					c.Shards, c.Queue, c.Subs, c.Outbox, c.Window, c.Link, c.Timeout = -1, 65, math.MinInt, 0, 33, -7, math.MaxInt
					wantNew(t, c, ok)
				}
			}
		}
	}
}

// wantNew fails, unless New and From of a Config answer a world without any, or ErrArg.
func wantNew(t *testing.T, c api.Config, ok bool) {
	t.Helper()
	w, e := New(c)
	v, f := From(c, nil, []api.Fence{}, nil)
	if !ok {
		if w != nil || v != nil || e != api.ErrArg || f != api.ErrArg {
			t.Errorf("of %v: %v, %d and %v, %d", c, w, e, v, f)
		}
		return
	}
	wantErr(t, "New", e, api.OK)
	wantErr(t, "From", f, api.OK)
	if w != nil && v != nil {
		wantWorld(t, fmt.Sprint("New of ", c), w, &plain{})
		wantWorld(t, fmt.Sprint("From of ", c), v, &plain{})
	}
}

// P19.1: there is room for so many objects and fences, and for no more.
func TestRoom(t *testing.T) {
	for _, room := range [][2]int{{1, 1}, {1, 64}, {64, 1}, {3, 2}, {63, 64}, {64, 64}} {
		ws, p := made(t, room[0], room[1])
		for i := range room[1] {
			a := both(t, "Fence", ws, p, fencing(fenceOf(uint32(i), 9, rectOf(int32(-i), -5, 5, int32(i))), 1))
			wantErr(t, "one of the fences", a.err, api.OK)
		}
		wantErr(t, "a fence more", both(t, "Fence", ws, p, fencing(fenceOf(64, 0, rectOf(0, 0, 1, 1)), 1)).err, api.ErrFull)
		for i := range room[0] {
			a := both(t, "Update", ws, p, going(uint32(i), at(0, 0), 2))
			wantErr(t, "one of the objects", a.err, api.OK)
			wantTrue(t, "is in all of them", len(a.events) == room[1], true)
		}
		wantErr(t, "an object more", both(t, "Update", ws, p, going(64, at(0, 0), 2)).err, api.ErrFull)
		wantWorlds(t, "full", ws, p)
		for range room[0] * room[1] {
			wantTrue(t, "each stay is due", both(t, "Due", ws, p, taking(11)).ok, true)
		}
		wantWorlds(t, "none due any more", ws, p)
	}
}

// The chapter's table.
func TestExamples(t *testing.T) {
	for _, c := range configs(2, 2) {
		w, e := New(c)
		wantErr(t, "New", e, api.OK)
		f := fenceOf(7, 3, rectOf(0, 0, 10, 10))
		events, e := w.Update(1, 1, 0, at(5, 5), 0)
		wantErr(t, "Update(1)", e, api.OK)
		wantEvents(t, "Update(1)", events)
		events, e = w.Fence(f, 1)
		wantErr(t, "Fence", e, api.OK)
		wantEvents(t, "Fence", events, api.Event{Kind: api.Enter, Object: 1, Fence: 7, Number: 1, Place: at(5, 5), Clock: 1})
		wantTrue(t, "HasDue(3)", w.HasDue(3), false)
		wantTrue(t, "HasDue(4)", w.HasDue(4), true)
		x, ok := w.Due(4)
		wantTrue(t, "Due(4)", ok && x == api.Event{Kind: api.Stay, Object: 1, Fence: 7, Number: 1, Place: at(5, 5), Clock: 4}, true)
		x, ok = w.Due(4)
		wantTrue(t, "Due(4) again", ok || x != api.Event{}, false)
		events, _ = w.Update(1, 2, 9, at(20, 5), 5)
		v := track.Speed(0, at(5, 5), at(20, 5), 0, 9)
		wantEvents(t, "leaves", events, api.Event{Kind: api.Leave, Object: 1, Fence: 7, Number: 2, Place: at(20, 5), Clock: 5, Speed: v})
		events, _ = w.Update(1, 3, 9, at(-5, 5), 6)
		wantEvents(t, "passes", events, api.Event{Kind: api.Pass, Object: 1, Fence: 7, Number: 3, Place: at(-5, 5), Clock: 6, Speed: v})
		events, _ = w.Update(2, 1, 0, at(10, 10), 6)
		wantEvents(t, "enters", events, api.Event{Kind: api.Enter, Object: 2, Fence: 7, Number: 1, Place: at(10, 10), Clock: 6})
		_, e = w.Update(3, 1, 0, at(0, 0), 6)
		wantErr(t, "Update(3)", e, api.ErrFull)
		_, e = w.Update(2, 2, 0, at(1<<30, 0), 7)
		wantErr(t, "off the lattice", e, api.ErrPlace)
		_, e = w.Fence(f, 7)
		wantErr(t, "Fence again", e, api.ErrThere)
		wantTrue(t, "Worst", w.Worst(api.CmdUpdate) == 1 && w.Worst(api.CmdFence) == 2, true)
		wantEvents(t, "Forget(2)", w.Forget(2, 8), api.Event{Kind: api.Leave, Object: 2, Fence: 7, Number: 1, Place: at(10, 10), Clock: 8})
		wantEvents(t, "Forget(2) again", w.Forget(2, 9))
		wantEvents(t, "Unfence(7)", w.Unfence(7, 9))
		wantEvents(t, "Unfence(7) again", w.Unfence(7, 9))
		wantTrue(t, "Worst at the end", w.Worst(api.CmdUpdate) == 0 && w.Worst(api.CmdFence) == 1 && w.Worst(api.CmdStatus) == 0, true)
	}
}

// P19.1: every call to a world that is not there, a nil one, a zero one and those that were refused, with right arguments and wrong ones.
func TestNoWorld(t *testing.T) {
	refused, e := New(api.Config{Objects: 1, Fences: 1, Cell: 0})
	wantErr(t, "New", e, api.ErrArg)
	news, e := From(api.Config{Objects: 1, Fences: 1, Cell: 1}, make([]api.Object, 2), nil, nil)
	wantErr(t, "From", e, api.ErrNews)
	for what, w := range map[string]*World{"nil": nil, "zero": {}, "refused": refused, "news": news} {
		for _, n := range []uint32{0, 1, 7, topmost} {
			for _, q := range []api.Point{at(0, 0), at(bound+1, 0), at(least, greatest)} {
				events, e := w.Update(n, n, n, q, n)
				wantTrue(t, what+": Update", events == nil && e == api.ErrNil, true)
			}
			for _, s := range []api.Shape{rectOf(0, 0, 1, 1), {}, discOf(0, 0, -1)} {
				events, e := w.Fence(fenceOf(n, n, s), n)
				wantTrue(t, what+": Fence", events == nil && e == api.ErrNil, true)
			}
			wantTrue(t, what+": Forget", w.Forget(n, n) == nil, true)
			wantTrue(t, what+": Unfence", w.Unfence(n, n) == nil, true)
			wantTrue(t, what+": HasDue", w.HasDue(n), false)
			x, ok := w.Due(n)
			wantTrue(t, what+": Due", x == api.Event{} && !ok, true)
			wantTrue(t, what+": HasObject", w.HasObject(n), false)
			wantTrue(t, what+": HasFence", w.HasFence(n), false)
		}
		wantTrue(t, what+": lists", w.Objects() == nil && w.Fences() == nil && w.Dues() == nil, true)
		wantWorst(t, what, w, &plain{})
	}
}

// P19.4: who is there is forgotten, leaves what it is in, by number, as it was last, and nobody else does; who is not there makes nothing happen.
func TestForget(t *testing.T) {
	ws, p := made(t, 3, 4,
		fencing(fenceOf(9, 5, rectOf(0, 0, 9, 9)), 0), fencing(fenceOf(topmost, 0, discOf(0, 0, 5)), 0), fencing(fenceOf(0, 1, discOf(3, 3, 9)), 0), fencing(fenceOf(4, 2, rectOf(50, 50, 60, 60)), 0),
		going(1, at(2, 2), 1), going(2, at(1, 1), 1), updating(1, 77, 9, at(3, 3), 2), going(topmost, at(-40, 0), 2))
	for _, n := range []uint32{0, 3, 4, 9, topmost - 1} {
		wantBriefs(t, "of nobody", both(t, "Forget", ws, p, forgetting(n, 3)).events)
	}
	wantWorlds(t, "nobody forgotten", ws, p)
	a := both(t, "Forget", ws, p, forgetting(1, 3))
	wantBriefs(t, "of one in three fences", a.events, left(1, 0), left(1, 9), left(1, topmost))
	v := track.Speed(0, at(2, 2), at(3, 3), 1, 9)
	for _, e := range a.events {
		wantTrue(t, "as it was last", e.Number == 77 && e.Place == at(3, 3) && e.Clock == 3 && e.Speed == v && v > 0, true)
	}
	wantWorlds(t, "one forgotten", ws, p)
	wantBriefs(t, "again", both(t, "Forget", ws, p, forgetting(1, 4)).events)
	wantBriefs(t, "of one in none", both(t, "Forget", ws, p, forgetting(topmost, 4)).events)
	wantBriefs(t, "of one that comes again", both(t, "Update", ws, p, updating(1, 1, 0, at(60, 60), 4)).events, entered(1, 4))
	wantWorlds(t, "at the end", ws, p)
}

// P19.4, P19.3: who was forgotten comes again as one that was never there: at no speed, and without a way behind it.
func TestForgottenComesAgain(t *testing.T) {
	ws, p := made(t, 1, 1, fencing(fenceOf(5, 3, rectOf(0, -5, 9, 5)), 0), updating(1, 1, 0, at(-9, 0), 0), updating(1, 2, 9, at(-3, 0), 1), forgetting(1, 2))
	a := both(t, "Update", ws, p, updating(1, 3, 18, at(30, 0), 3))
	wantEvents(t, "behind the fence", a.events)
	wantTrue(t, "no speed", ws[0].Objects()[0].Speed == 0, true)
	both(t, "Forget", ws, p, forgetting(1, 4))
	a = both(t, "Update", ws, p, updating(1, 4, 27, at(9, 5), 5))
	wantEvents(t, "in the fence", a.events, api.Event{Kind: api.Enter, Object: 1, Fence: 5, Number: 4, Place: at(9, 5), Clock: 5})
	wantWorlds(t, "at the end", ws, p)
}

// P19.6: what is there is taken away, who is in it leaves it, by number; what is not there makes nothing happen.
func TestUnfence(t *testing.T) {
	ws, p := made(t, 4, 3,
		fencing(fenceOf(5, 7, rectOf(0, 0, 9, 9)), 0), fencing(fenceOf(6, 7, discOf(4, 4, 2)), 0), fencing(fenceOf(topmost, 0, rectOf(50, 50, 60, 60)), 0),
		going(8, at(4, 4), 1), going(topmost, at(4, 5), 1), going(0, at(9, 9), 1), going(3, at(10, 10), 1))
	for _, n := range []uint32{0, 3, 4, 7, 8, topmost - 1} {
		wantBriefs(t, "of none", both(t, "Unfence", ws, p, unfencing(n, 3)).events)
	}
	wantWorlds(t, "none taken away", ws, p)
	wantBriefs(t, "of one", both(t, "Unfence", ws, p, unfencing(5, 3)).events, left(0, 5), left(8, 5), left(topmost, 5))
	wantWorlds(t, "one taken away", ws, p)
	wantBriefs(t, "again", both(t, "Unfence", ws, p, unfencing(5, 3)).events)
	wantBriefs(t, "of one in which nobody is", both(t, "Unfence", ws, p, unfencing(topmost, 3)).events)
	wantBriefs(t, "through what was there", both(t, "Update", ws, p, going(3, at(-10, -10), 4)).events, passed(3, 6))
	wantBriefs(t, "into what was there", both(t, "Update", ws, p, going(3, at(1, 1), 5)).events)
	wantBriefs(t, "put in again", both(t, "Fence", ws, p, fencing(fenceOf(5, 0, rectOf(0, 0, 9, 9)), 6)).events, entered(0, 5), entered(3, 5), entered(8, 5), entered(topmost, 5))
	wantWorlds(t, "at the end", ws, p)
}

// P19.6: one fence comes behind another into its room, with another shape and another dwell, and nothing of the one ahead is left.
func TestFenceForAnother(t *testing.T) {
	for _, id := range []uint32{5, 6} {
		ws, p := made(t, 2, 1, fencing(fenceOf(5, 2, rectOf(0, 0, 9, 9)), 0), going(1, at(4, 4), 0), going(2, at(40, 40), 0), unfencing(5, 1))
		wantBriefs(t, "put in", both(t, "Fence", ws, p, fencing(fenceOf(id, 0, rectOf(40, 40, 50, 50)), 1)).events, entered(2, id))
		wantBriefs(t, "stays where it is", both(t, "Update", ws, p, going(1, at(4, 4), 2)).events)
		wantTrue(t, "nothing is due", both(t, "Due", ws, p, taking(topmost)).ok, false)
		wantBriefs(t, "through it", both(t, "Update", ws, p, going(1, at(60, 60), 3)).events, passed(1, id))
		wantWorlds(t, "another one", ws, p)
	}
}

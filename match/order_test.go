package match

import (
	"fmt"
	"slices"
	"testing"

	"paddock/api"
)

// orders are all orders of the numbers below n.
func orders(n int) [][]int {
	if n == 0 {
		return [][]int{{}}
	}
	var list [][]int
	for _, shorter := range orders(n - 1) {
		for i := range n {
			list = append(list, slices.Insert(slices.Clone(shorter), i, n-1))
		}
	}
	return list
}

// P19.3: the leavings, then the passings, then the enterings, each by the fence's number, in whatever order the fences were put in, and wherever they lie.
func TestOrderOfAnUpdate(t *testing.T) {
	fences := []api.Fence{
		fenceOf(1, 0, discOf(100, 0, 9)), fenceOf(2, 1, rectOf(-9, -9, 9, 9)), fenceOf(8, 0, rectOf(50, -1, 51, 1)),
		fenceOf(9, 3, corridorOf(1, -5, 0, 5, 0)), fenceOf(topmost, 0, discOf(20, 0, 1)), fenceOf(1<<31, 5, rectOf(90, -9, 120, 0)),
	}
	for _, order := range orders(len(fences)) {
		ws, p := made(t, 1, 6)
		for _, i := range order {
			wantErr(t, "Fence", both(t, "Fence", ws, p, fencing(fences[i], 0)).err, api.OK)
		}
		what := fmt.Sprint("in the order ", order)
		wantBriefs(t, what, both(t, what, ws, p, going(3, at(0, 0), 1)).events, entered(3, 2), entered(3, 9))
		wantBriefs(t, what, both(t, what, ws, p, going(3, at(100, 0), 2)).events,
			left(3, 2), left(3, 9), passed(3, 8), passed(3, topmost), entered(3, 1), entered(3, 1<<31))
		wantBriefs(t, what, both(t, what, ws, p, going(3, at(0, 0), 3)).events,
			left(3, 1), left(3, 1<<31), passed(3, 8), passed(3, topmost), entered(3, 2), entered(3, 9))
		wantBriefs(t, what, both(t, what, ws, p, going(3, at(200, 0), 4)).events,
			left(3, 2), left(3, 9), passed(3, 1), passed(3, 8), passed(3, 1<<31), passed(3, topmost))
		wantWorlds(t, what, ws, p)
		if t.Failed() {
			return
		}
	}
}

// P19.4: the leavings of a forgetting come by the fence's number, in whatever order they were entered.
func TestOrderOfAForgetting(t *testing.T) {
	ids := []uint32{0, 3, 1 << 31, topmost}
	for _, order := range orders(4) {
		ws, p := made(t, 1, 4, going(1, at(0, 0), 0))
		for _, i := range order {
			both(t, "Fence", ws, p, fencing(fenceOf(ids[i], 1, rectOf(-9, -9, int32(i), int32(i))), 0))
		}
		wantBriefs(t, fmt.Sprint("in the order ", order), both(t, "Forget", ws, p, forgetting(1, 1)).events, left(1, 0), left(1, 3), left(1, 1<<31), left(1, topmost))
		wantWorlds(t, "forgotten", ws, p)
	}
}

// P19.5, P19.6: a fence's enterings and leavings come by the object's number, in whatever order the objects came.
func TestOrderOfAFence(t *testing.T) {
	ids := []uint32{0, 3, 1 << 31, topmost}
	for _, order := range orders(4) {
		what := fmt.Sprint("in the order ", order)
		ws, p := made(t, 5, 1)
		for _, i := range order {
			both(t, "Update", ws, p, going(ids[i], at(int32(i), 0), 0))
		}
		both(t, "Update", ws, p, going(7, at(9, 9), 0))
		wantBriefs(t, what, both(t, what, ws, p, fencing(fenceOf(7, 1, rectOf(0, 0, 9, 0)), 1)).events, entered(0, 7), entered(3, 7), entered(1<<31, 7), entered(topmost, 7))
		wantWorlds(t, what, ws, p)
		wantBriefs(t, what, both(t, what, ws, p, unfencing(7, 2)).events, left(0, 7), left(3, 7), left(1<<31, 7), left(topmost, 7))
		wantWorlds(t, what, ws, p)
	}
}

// P19.10: events of several objects have of each its own number, place and speed, and all the clock of the call.
func TestEventsOfSeveral(t *testing.T) {
	ws, p := made(t, 3, 1, updating(2, 20, 0, at(1, 1), 0), updating(1, 10, 0, at(5, 5), 0), updating(3, 30, 0, at(9, 9), 0),
		updating(2, 21, 8, at(4, 5), 1), updating(3, 29, 8, at(9, 9), 1))
	for _, c := range []call{fencing(fenceOf(6, 0, rectOf(0, 0, 9, 9)), 77), unfencing(6, 78)} {
		kind := api.Enter
		if c.kind == callUnfence {
			kind = api.Leave
		}
		wantEvents(t, c.String(), both(t, "fence", ws, p, c).events,
			api.Event{Kind: kind, Object: 1, Fence: 6, Number: 10, Place: at(5, 5), Clock: c.clock},
			api.Event{Kind: kind, Object: 2, Fence: 6, Number: 21, Place: at(4, 5), Clock: c.clock, Speed: 0.3125},
			api.Event{Kind: kind, Object: 3, Fence: 6, Number: 29, Place: at(9, 9), Clock: c.clock})
	}
	wantWorlds(t, "at the end", ws, p)
}

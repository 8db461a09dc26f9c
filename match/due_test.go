package match

import (
	"fmt"
	"testing"

	"paddock/api"
)

// P19.7: a stay is due from the clock of the entering and the Dwell on, wherever these lie; never, if that is above the greatest clock.
func TestWhenDue(t *testing.T) {
	numbers := []uint32{0, 1, 2, 1 << 31, 1<<31 + 1, topmost - 2, topmost - 1, topmost}
	for _, clock := range numbers {
		for _, dwell := range numbers {
			for _, start := range [][]call{
				{fencing(fenceOf(7, dwell, rectOf(0, 0, 9, 9)), 3), going(1, at(5, 5), clock)},
				{going(1, at(5, 5), 3), fencing(fenceOf(7, dwell, rectOf(0, 0, 9, 9)), clock)},
				{fencing(fenceOf(7, dwell, rectOf(0, 0, 9, 9)), 3), going(1, at(50, 5), 3), going(1, at(5, 5), clock)},
			} {
				what := fmt.Sprint("entered at ", clock, " with the dwell ", dwell)
				ws, p := made(t, 1, 1, start...)
				wantWorlds(t, what, ws, p)
				when := uint64(clock) + uint64(dwell)
				for _, w := range ws {
					if dwell == 0 || when > topmost {
						wantTrue(t, what+": never", w.HasDue(topmost), false)
						continue
					}
					wantTrue(t, what+": ahead of it", w.HasDue(uint32(when-1)), false)
					wantTrue(t, what+": at it", w.HasDue(uint32(when)), true)
					wantTrue(t, what+": at the end", w.HasDue(topmost), true)
				}
				both(t, what, ws, p, taking(uint32(max(when, 1)-1)))
				both(t, what, ws, p, taking(uint32(min(when, topmost))))
				both(t, what, ws, p, taking(topmost))
				wantWorlds(t, what, ws, p)
			}
		}
	}
}

// P19.7, P19.10: the event of a stay has the clock at which it is taken, and of its object what it is then; it is told once, and of another entering anew.
func TestStay(t *testing.T) {
	ws, p := made(t, 1, 1, fencing(fenceOf(7, 3, rectOf(0, 0, 9, 9)), 0), updating(1, 10, 0, at(1, 1), 2), updating(1, 11, 8, at(4, 5), 4))
	wantEvents(t, "too early", both(t, "Due", ws, p, taking(4)).events)
	want := api.Event{Kind: api.Stay, Object: 1, Fence: 7, Number: 11, Place: at(4, 5), Clock: 90, Speed: 0.3125}
	wantEvents(t, "late", both(t, "Due", ws, p, taking(90)).events, want)
	wantEvents(t, "again", both(t, "Due", ws, p, taking(topmost)).events)
	wantBriefs(t, "goes on within", both(t, "Update", ws, p, going(1, at(9, 9), 91)).events)
	wantEvents(t, "still none", both(t, "Due", ws, p, taking(topmost)).events)
	wantBriefs(t, "leaves", both(t, "Update", ws, p, going(1, at(10, 10), 92)).events, left(1, 7))
	wantBriefs(t, "enters again", both(t, "Update", ws, p, going(1, at(0, 0), 93)).events, entered(1, 7))
	wantBriefs(t, "too early again", both(t, "Due", ws, p, taking(95)).events)
	wantBriefs(t, "anew", both(t, "Due", ws, p, taking(96)).events, stayed(1, 7))
	wantWorlds(t, "at the end", ws, p)
}

// endings are ways in which the stay of the object 1 in the fence 7 ends, and none of others.
func endings() map[string][]call {
	return map[string][]call{
		"leaves":               {going(1, at(50, 50), 9)},
		"leaves and is back":   {going(1, at(50, 50), 9), going(1, at(5, 5), 8)},
		"is forgotten":         {forgetting(1, 9)},
		"is forgotten and new": {forgetting(1, 9), going(1, at(5, 5), 8)},
		"fence away":           {unfencing(7, 9)},
		"fence away and again": {unfencing(7, 9), fencing(fenceOf(7, 3, rectOf(0, 0, 9, 9)), 8)},
		"fence for another":    {unfencing(7, 9), fencing(fenceOf(6, 3, rectOf(0, 0, 9, 9)), 8)},
	}
}

// P19.4, P19.6, P19.11: a stay ends when its object leaves, or is forgotten, or its fence is taken away, whether it was due or not; those of others in the same fence, and of the same object elsewhere, go on.
func TestStayEnds(t *testing.T) {
	for name, ending := range endings() {
		for _, clock := range []uint32{4, 10, topmost} {
			what := fmt.Sprint(name, " at ", clock)
			ws, p := made(t, 3, 4,
				fencing(fenceOf(7, 10, rectOf(0, 0, 9, 9)), 0), fencing(fenceOf(8, 10, rectOf(0, 0, 90, 90)), 0), fencing(fenceOf(9, 0, rectOf(0, 0, 9, 9)), 0),
				going(1, at(5, 5), 0), going(2, at(6, 6), 1), going(3, at(7, 7), 2))
			for _, c := range ending {
				c.clock = clock
				both(t, what, ws, p, c)
			}
			wantWorlds(t, what, ws, p)
			for range 8 {
				both(t, what, ws, p, taking(clock))
				both(t, what, ws, p, taking(topmost))
			}
			wantTrue(t, what+": none left", len(p.dues) == 0, true)
			wantWorlds(t, what+", all told", ws, p)
		}
	}
}

// P19.7: of several that are due at once the least object comes first, and of it the least fence; of others what was due first, whoever entered first.
func TestOrderOfDues(t *testing.T) {
	for _, order := range orders(3) {
		ids := []uint32{2, topmost, 0}
		ws, p := made(t, 3, 3, fencing(fenceOf(8, 5, rectOf(0, 0, 9, 9)), 0), fencing(fenceOf(3, 5, rectOf(0, 0, 9, 9)), 0), fencing(fenceOf(topmost, 4, rectOf(0, 0, 4, 4)), 0))
		for _, i := range order {
			both(t, "Update", ws, p, going(ids[i], at(int32(3*i), 0), 10))
		}
		wantWorlds(t, fmt.Sprint("order ", order), ws, p)
		for _, want := range []brief{stayed(2, topmost), stayed(topmost, topmost), stayed(0, 3), stayed(0, 8), stayed(2, 3), stayed(2, 8), stayed(topmost, 3), stayed(topmost, 8)} {
			wantBriefs(t, fmt.Sprint("order ", order), both(t, "Due", ws, p, taking(15)).events, want)
		}
		wantBriefs(t, "no more", both(t, "Due", ws, p, taking(topmost)).events)
	}
}

// P19.7: clocks that fall, and clocks far ahead, between two that are due.
func TestDueAtAnyClock(t *testing.T) {
	ws, p := made(t, 2, 2, fencing(fenceOf(1, topmost, rectOf(0, 0, 9, 9)), 0), fencing(fenceOf(2, 1, rectOf(0, 0, 9, 9)), 0), going(5, at(5, 5), 0), going(6, at(5, 5), topmost-1))
	for _, clock := range []uint32{0, 1, 0, topmost - 1, 1, 0, topmost, topmost, 0, topmost} {
		both(t, "Due", ws, p, taking(clock))
		wantWorlds(t, fmt.Sprint("behind the clock ", clock), ws, p)
	}
	wantTrue(t, "all were told", len(p.dues) == 0, true)
}

package timer

import (
	"fmt"
	"math/rand"
	"testing"

	"paddock/api"
)

// fewCalls are calls of each kind, over dues some of which are of one stay, and some alike in At, in Object or in Fence.
func fewCalls() []call {
	return []call{
		{callSet, due(2, 1, 1)}, {callSet, due(1, 1, 1)}, {callSet, due(1, 2, 1)}, {callSet, due(1, 1, 2)},
		{callCut, due(0, 1, 1)}, {callCut, due(0, 2, 1)}, {callCutObject, due(0, 1, 0)}, {callCutFence, due(0, 0, 1)},
		{callTake, due(1, 0, 0)}, {callTake, due(2, 0, 0)}, {callFirst, api.Due{}}, {callReady, due(1, 0, 0)},
	}
}

// course does the calls that a number tells, and fails, unless each answers by the words, and what stands behind them all is what they say.
func course(t *testing.T, most int, few []call, length, number int) {
	t.Helper()
	d, p := made(t, most), &plain{most: most}
	what := fmt.Sprintf("room for %d, %d calls, course %d", most, length, number)
	for range length {
		both(t, what, d, p, few[number%len(few)])
		number /= len(few)
	}
	wantStand(t, what, d, p.list...)
}

// everyCourse does all courses of so many calls.
func everyCourse(t *testing.T, most int, few []call, length int) {
	t.Helper()
	courses := 1
	for range length {
		courses *= len(few)
	}
	for number := range courses {
		course(t, most, few, length, number)
		if t.Failed() {
			return
		}
	}
}

// P16.2 to P16.6: every course of a few calls, with room for one to three, held against a plain sorted list.
func TestEveryCourse(t *testing.T) {
	for most := 1; most <= 3; most++ {
		for length := range 5 {
			everyCourse(t, most, fewCalls(), length)
		}
	}
}

// P16.2 to P16.6: every course of seven calls that let more stand, and take off from the top and the midst.
func TestEveryLongerCourse(t *testing.T) {
	few := []call{{callSet, due(3, 1, 1)}, {callSet, due(1, 2, 1)}, {callSet, due(2, 1, 2)}, {callCut, due(0, 2, 1)}, {callTake, due(2, 0, 0)}}
	everyCourse(t, 3, few, 7)
}

// P16.2 to P16.6: of every set of eight dues that stand, set rising, falling and mixed, each one is cut, and then all are taken.
func TestEverySet(t *testing.T) {
	list := []api.Due{due(1, 5, 1), due(1, 6, 0), due(1, 6, 1), due(2, 1, 1), due(3, 1, 0), due(3, 2, 2), due(4, 0, 0), due(9, 0, 1)}
	for _, places := range [][]int{{0, 1, 2, 3, 4, 5, 6, 7}, {7, 6, 5, 4, 3, 2, 1, 0}, {3, 7, 0, 5, 1, 6, 2, 4}, {0, 4, 1, 7, 6, 5, 2, 3}} {
		for members := range 1 << len(list) {
			for gone := range list {
				d, p := made(t, len(list)), &plain{most: len(list)}
				what := fmt.Sprintf("the set %b in the order %v, without %d", members, places, gone)
				for _, i := range places {
					if members>>i&1 == 1 {
						both(t, what, d, p, call{callSet, list[i]})
					}
				}
				both(t, what, d, p, call{callCut, list[gone]})
				wantStand(t, what, d, p.list...)
				for range len(list) {
					both(t, what, d, p, call{callTake, due(9, 0, 0)})
				}
				wantStand(t, what+", taken", d)
				if t.Failed() {
					return
				}
			}
		}
	}
}

// anyNumber is a small one, or one at the end, or any at all.
func anyNumber(random *rand.Rand) uint32 {
	switch random.Intn(40) {
	case 0:
		return topmost
	case 1:
		return random.Uint32()
	}
	return random.Uint32() % 12
}

// anyCall is a call of any kind, with any numbers; as often as not it puts something in.
func anyCall(random *rand.Rand) call {
	kind := random.Intn(calls)
	if random.Intn(2) == 0 {
		kind = callSet
	}
	return call{kind, due(anyNumber(random), anyNumber(random), anyNumber(random))}
}

// P16.2 to P16.6: any course of calls, with much room and little.
func TestAnyCourse(t *testing.T) {
	random := rand.New(rand.NewSource(1))
	answers, cut, highest := map[api.Errno]int{}, 0, 0
	for _, most := range []int{1, 2, 3, 8, 64, 4096} {
		d, p := made(t, most), &plain{most: most}
		for n := range 4000 {
			c := anyCall(random)
			what := fmt.Sprintf("room for %d, call %d", most, n)
			a := both(t, what, d, p, c)
			wantStand(t, fmt.Sprint(what, ": ", c), d, p.list...)
			if t.Failed() {
				return
			}
			answers[a.err]++
			cut, highest = max(cut, a.n), max(highest, len(p.list))
		}
	}
	for _, e := range []api.Errno{api.OK, api.ErrThere, api.ErrFull} {
		if answers[e] < 100 {
			t.Errorf("answered %d: %d times", e, answers[e])
		}
	}
	if cut < 4 || highest < 20 {
		t.Errorf("the most cut by one call: %d, the most that stood: %d", cut, highest)
	}
}

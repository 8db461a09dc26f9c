package seg

import (
	"testing"

	"paddock/api"
)

// one is a meeting in one point.
func one(at api.Frac, inner bool) api.Meeting {
	return api.Meeting{Kind: api.MeetPoint, Inner: inner, From: at, To: at}
}

// along is one in more.
func along(from, to api.Frac) api.Meeting {
	return api.Meeting{Kind: api.MeetAlong, From: from, To: to}
}

// P5.1
func TestMeet(t *testing.T) {
	kinds := map[api.Meeting]int{}
	for _, q := range quads() {
		want := q.wanted()
		if got := Meet(q[0], q[1], q[2], q[3]); got != want {
			t.Errorf("Meet of %v: %v, want %v", q, got, want)
		}
		if got := Touch(q[0], q[1], q[2], q[3]); got != (want.Kind != api.MeetApart) {
			t.Errorf("Touch of %v: %v", q, got)
		}
		kinds[api.Meeting{Kind: want.Kind, Inner: want.Inner}]++
	}
	if len(kinds) != 4 {
		t.Errorf("these do not meet in all ways: %v", kinds)
	}
}

// P5.1
func TestMeetByHand(t *testing.T) {
	apart := api.Meeting{}
	for _, x := range []struct {
		a, b, c, d api.Point
		want       api.Meeting
	}{
		// The chapter's.
		{at(0, 0), at(4, 4), at(0, 4), at(4, 0), one(frac(1, 2), true)},
		{at(0, 0), at(3, 0), at(1, 0), at(1, 5), one(frac(1, 3), false)},
		{at(0, 0), at(6, 0), at(4, 0), at(9, 0), along(frac(2, 3), frac(1, 1))},
		{at(0, 0), at(6, 0), at(9, 0), at(4, 0), along(frac(2, 3), frac(1, 1))},
		{at(0, 0), at(6, 0), at(6, 0), at(9, 0), one(frac(1, 1), false)},
		{at(2, 2), at(2, 2), at(0, 0), at(4, 4), one(frac(0, 1), false)},
		{at(2, 2), at(2, 2), at(2, 2), at(2, 2), one(frac(0, 1), false)},
		{at(0, 0), at(4, 0), at(0, 1), at(4, 1), apart},
		{at(edge+1, 0), at(0, 0), at(0, 0), at(1, 1), apart},
		// They cross, or would if one were longer.
		{at(0, 0), at(5, 0), at(1, 2), at(1, -1), one(frac(1, 5), true)},
		{at(0, 0), at(6, 6), at(0, 3), at(6, 3), one(frac(1, 2), true)},
		{at(0, 0), at(1, 0), at(0, 1), at(3, -1), apart},
		{at(0, 0), at(9, 0), at(4, 5), at(4, 1), apart},
		{at(4, 5), at(4, 1), at(0, 0), at(9, 0), apart},
		// An end of the first one, of the second one, of both.
		{at(1, 0), at(1, 5), at(0, 0), at(3, 0), one(frac(0, 1), false)},
		{at(1, 5), at(1, 0), at(0, 0), at(3, 0), one(frac(1, 1), false)},
		{at(0, 0), at(8, 4), at(6, 3), at(6, 9), one(frac(3, 4), false)},
		{at(0, 0), at(8, 4), at(6, 9), at(6, 3), one(frac(3, 4), false)},
		{at(0, 0), at(2, 1), at(2, 1), at(0, 9), one(frac(1, 1), false)},
		{at(0, 0), at(2, 1), at(0, 9), at(0, 0), one(frac(0, 1), false)},
		{at(0, 0), at(2, 2), at(4, 4), at(4, 0), apart},
		// One line.
		{at(0, 0), at(6, 3), at(0, 0), at(6, 3), along(frac(0, 1), frac(1, 1))},
		{at(0, 0), at(6, 3), at(6, 3), at(0, 0), along(frac(0, 1), frac(1, 1))},
		{at(0, 0), at(6, 3), at(2, 1), at(4, 2), along(frac(1, 3), frac(2, 3))},
		{at(0, 0), at(6, 3), at(4, 2), at(2, 1), along(frac(1, 3), frac(2, 3))},
		{at(2, 1), at(4, 2), at(0, 0), at(6, 3), along(frac(0, 1), frac(1, 1))},
		{at(0, 0), at(6, 3), at(-2, -1), at(2, 1), along(frac(0, 1), frac(1, 3))},
		{at(6, 3), at(0, 0), at(-2, -1), at(2, 1), along(frac(2, 3), frac(1, 1))},
		{at(0, 0), at(0, 4), at(0, 0), at(0, 1), along(frac(0, 1), frac(1, 4))},
		{at(0, 0), at(6, 3), at(-2, -1), at(0, 0), one(frac(0, 1), false)},
		{at(0, 0), at(6, 3), at(8, 4), at(6, 3), one(frac(1, 1), false)},
		{at(0, 0), at(6, 3), at(8, 4), at(10, 5), apart},
		{at(0, 0), at(6, 3), at(-4, -2), at(-2, -1), apart},
		// One point.
		{at(0, 0), at(4, 0), at(1, 0), at(1, 0), one(frac(1, 4), false)},
		{at(0, 0), at(4, 0), at(0, 0), at(0, 0), one(frac(0, 1), false)},
		{at(0, 0), at(4, 0), at(4, 0), at(4, 0), one(frac(1, 1), false)},
		{at(0, 0), at(4, 0), at(5, 0), at(5, 0), apart},
		{at(0, 0), at(4, 0), at(1, 1), at(1, 1), apart},
		{at(4, 4), at(4, 4), at(0, 0), at(4, 4), one(frac(0, 1), false)},
		{at(5, 5), at(5, 5), at(0, 0), at(4, 4), apart},
		{at(1, 2), at(1, 2), at(0, 0), at(4, 4), apart},
		{at(1, 1), at(1, 1), at(1, 2), at(1, 2), apart},
	} {
		if got := Meet(x.a, x.b, x.c, x.d); got != x.want {
			t.Errorf("%v: %v", x, got)
		}
		if got := Touch(x.a, x.b, x.c, x.d); got != (x.want != apart) {
			t.Errorf("Touch of %v: %v", x, got)
		}
	}
}

// P5.1: the greatest numbers, of which a real number would lose the last digits.
func TestMeetAtTheEdge(t *testing.T) {
	for _, x := range []struct {
		a, b, c, d api.Point
		want       api.Meeting
	}{
		{at(-edge, -edge), at(edge, edge), at(-edge, edge), at(edge, -edge), one(frac(1, 2), true)},
		{at(-edge, -edge), at(edge, edge), at(edge-1, edge), at(edge, edge-1), one(frac(4294967291, 4294967292), true)},
		{at(-edge, -edge), at(edge-1, edge), at(-edge, edge), at(edge, 1-edge), one(frac(4611686009837453316, 9223372015379939341), true)},
		{at(-edge, -edge), at(edge, edge), at(edge, edge), at(edge, -edge), one(frac(1, 1), false)},
		{at(-edge, -edge), at(edge, edge), at(edge-1, edge-1), at(edge, -edge), one(frac(2147483645, 2147483646), false)},
		{at(-edge, -edge), at(edge, edge), at(edge, edge-1), at(edge, -edge), api.Meeting{}},
		{at(-edge, -edge), at(edge, edge), at(edge-1, edge-2), at(edge, -edge), api.Meeting{}},
		{at(-edge, -edge), at(edge, edge), at(-edge, 1-edge), at(edge-1, edge), api.Meeting{}},
		{at(-edge, -edge), at(edge, edge), at(1-edge, 1-edge), at(edge-1, edge-1), along(frac(1, 2147483646), frac(2147483645, 2147483646))},
		{at(-edge, edge), at(edge, edge), at(edge-1, edge), at(edge, edge), along(frac(2147483645, 2147483646), frac(1, 1))},
	} {
		if got := Meet(x.a, x.b, x.c, x.d); got != x.want {
			t.Errorf("%v: %v", x, got)
		}
		if got := Touch(x.a, x.b, x.c, x.d); got != (x.want != api.Meeting{}) {
			t.Errorf("Touch of %v: %v", x, got)
		}
	}
}

// P5.1, P0.1: one point that is not of the lattice, at any place, also where all four would meet.
func TestMeetOutside(t *testing.T) {
	for _, off := range outside() {
		for _, near := range []api.Point{off, at(0, 0), at(edge, -edge)} {
			for i := range 4 {
				q := quad{near, near, near, near}
				q[i] = off
				if got := Meet(q[0], q[1], q[2], q[3]); got != (api.Meeting{}) {
					t.Errorf("Meet of %v: %v", q, got)
				}
				if Touch(q[0], q[1], q[2], q[3]) {
					t.Errorf("Touch of %v", q)
				}
			}
		}
	}
}

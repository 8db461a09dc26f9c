package match

import (
	"fmt"
	"math/rand"
	"slices"
	"testing"

	"paddock/api"
	"paddock/track"
)

// spot is a place, and whether a shape covers it, as one can reckon by hand.
type spot struct {
	place api.Point
	in    bool
}

// edges are shapes of each kind, each with places on, just within and just without its edge.
func edges() map[string]struct {
	s     api.Shape
	spots []spot
} {
	const far = bound
	return map[string]struct {
		s     api.Shape
		spots []spot
	}{
		"box":                   {rectOf(0, 0, 10, 8), []spot{{at(0, 0), true}, {at(10, 8), true}, {at(10, 4), true}, {at(9, 4), true}, {at(11, 4), false}, {at(-1, 0), false}, {at(0, -1), false}, {at(5, 9), false}, {at(5, 8), true}, {at(11, 9), false}}},
		"box of one point":      {rectOf(3, 3, 3, 3), []spot{{at(3, 3), true}, {at(3, 4), false}, {at(2, 3), false}, {at(2, 2), false}, {at(4, 4), false}}},
		"box on a line":         {rectOf(0, 4, 9, 4), []spot{{at(0, 4), true}, {at(9, 4), true}, {at(5, 4), true}, {at(10, 4), false}, {at(5, 5), false}, {at(5, 3), false}}},
		"disc":                  {discOf(0, 0, 5), []spot{{at(3, 4), true}, {at(4, 4), false}, {at(-5, 0), true}, {at(-6, 0), false}, {at(0, 5), true}, {at(1, 5), false}, {at(3, -4), true}, {at(4, -3), true}, {at(5, 1), false}, {at(0, 0), true}, {at(5, 5), false}}},
		"disc of one point":     {discOf(7, 7, 0), []spot{{at(7, 7), true}, {at(7, 8), false}, {at(6, 6), false}}},
		"corridor":              {corridorOf(2, 0, 0, 10, 0), []spot{{at(12, 0), true}, {at(11, 2), false}, {at(12, 1), false}, {at(10, 2), true}, {at(5, -2), true}, {at(5, 3), false}, {at(-2, 0), true}, {at(-3, 0), false}, {at(-1, -1), true}, {at(13, 0), false}}},
		"corridor with a bend":  {corridorOf(1, 0, 0, 9, 0, 9, 9), []spot{{at(10, 9), true}, {at(9, 10), true}, {at(10, 10), false}, {at(8, 8), true}, {at(7, 8), false}, {at(7, 2), false}, {at(4, 1), true}, {at(4, 2), false}, {at(10, 0), true}, {at(10, -1), false}}},
		"polygon":               {polyOf(of(0, 0, 10, 0, 5, 10)), []spot{{at(5, 10), true}, {at(0, 0), true}, {at(1, 2), true}, {at(1, 3), false}, {at(9, 2), true}, {at(9, 3), false}, {at(5, 0), true}, {at(5, -1), false}, {at(4, 11), false}, {at(10, 10), false}}},
		"polygon with a hole":   {holed(), []spot{{at(1, 1), true}, {at(9, 9), true}, {at(3, 4), true}, {at(4, 4), false}, {at(5, 5), false}, {at(6, 6), true}, {at(10, 1), false}, {at(2, 4), true}, {at(7, 5), true}, {at(0, 9), true}, {at(0, 10), false}}},
		"all of the lattice":    {rectOf(-far, -far, far, far), []spot{{at(-far, -far), true}, {at(far, -far), true}, {at(0, 0), true}, {at(far, far), true}}},
		"disc over the edge":    {discOf(far, 0, far), []spot{{at(far, far), true}, {at(far, -far), true}, {at(0, 0), true}, {at(-1, 0), false}, {at(0, 1), false}, {at(1, 1), true}, {at(far-1, far), false}, {at(far, 0), true}}},
		"polygon to the corner": {polyOf(of(far, far, far-4, far, far, far-4)), []spot{{at(far, far), true}, {at(far-2, far-2), true}, {at(far-3, far-2), false}, {at(far-2, far-3), false}, {at(far, far-4), true}, {at(far, far-5), false}, {at(far-4, far), true}}},
	}
}

// P19.3, P19.11: at places on, just within and just without an edge, an object enters when it is first told there, and each way from one of them to another makes it enter, leave, or neither.
func TestEdges(t *testing.T) {
	for name, e := range edges() {
		for _, from := range e.spots {
			for _, to := range e.spots {
				what := fmt.Sprint(name, " from ", from.place, " to ", to.place)
				ws, p := made(t, 1, 1, fencing(fenceOf(5, 3, e.s), 1))
				var first []brief
				if from.in {
					first = []brief{entered(1, 5)}
				}
				wantBriefs(t, what+": at first", both(t, what, ws, p, going(1, from.place, 2)).events, first...)
				events := both(t, what, ws, p, going(1, to.place, 3)).events
				var then []brief
				switch {
				case to.in && !from.in:
					then = []brief{entered(1, 5)}
				case from.in && !to.in:
					then = []brief{left(1, 5)}
				case !from.in && len(events) > 0:
					then = []brief{passed(1, 5)} // whether it does is asked below
				}
				wantBriefs(t, what, events, then...)
				wantWorlds(t, what, ws, p)
			}
		}
		if t.Failed() {
			return
		}
	}
}

// P19.3: the way from a place outside to another passes a fence, if the shape meets it anywhere.
func TestPassing(t *testing.T) {
	box, disc, ring := rectOf(0, 0, 10, 10), discOf(0, 0, 5), holed()
	for _, x := range []struct {
		what   string
		s      api.Shape
		p, q   api.Point
		passes bool
	}{
		{"through", box, at(-5, 5), at(15, 5), true},
		{"along an edge", box, at(-5, 10), at(15, 10), true},
		{"along, just without", box, at(-5, 11), at(15, 11), false},
		{"over a corner", box, at(0, 20), at(20, 0), true},
		{"just over a corner", box, at(1, 20), at(21, 0), false},
		{"just under a corner", box, at(0, 19), at(19, 0), true},
		{"at its corner's side", box, at(11, 20), at(11, -20), false},
		{"not as far as to it", box, at(-5, 5), at(-1, 5), false},
		{"past it, its line meets it", box, at(11, 5), at(15, 5), false},
		{"away, between places that are none", box, at(-3, 1), at(1, -2), false},
		{"over a corner between places", box, at(-3, 2), at(3, -2), true},
		{"a box within the way's", rectOf(8, 8, 9, 9), at(0, 0), at(10, 7), false},
		{"touches a disc", disc, at(5, -9), at(5, 9), true},
		{"just without a disc", disc, at(6, -9), at(6, 9), false},
		{"touches a disc at a place aslant", disc, at(-9, 13), at(15, -5), true},
		{"just without it aslant", disc, at(-10, 14), at(14, -4), false},
		{"touches a disc between places", disc, at(13, 0), at(-11, 10), true},
		{"just without it between places", disc, at(-6, 8), at(18, -2), false},
		{"a corridor's edge", corridorOf(2, 0, 0, 10, 0), at(0, 3), at(10, 3), false},
		{"a corridor's end", corridorOf(2, 0, 0, 10, 0), at(12, -5), at(12, 5), true},
		{"from without into the hole", ring, at(-5, 5), at(5, 5), true},
		{"out of the hole", ring, at(4, 4), at(20, 5), true},
		{"within the hole", ring, at(4, 4), at(5, 5), false},
		{"through the hole and all", ring, at(-1, 4), at(10, 5), true},
		{"the lattice's length", discOf(0, 0, 0), at(-bound, -bound), at(bound, bound), true},
		{"beside it at that length", discOf(0, 0, 0), at(-bound, -bound), at(bound, bound-1), false},
		{"along the lattice's edge", discOf(bound, 0, 1), at(bound, -bound), at(bound, bound), true},
	} {
		for _, way := range [][2]api.Point{{x.p, x.q}, {x.q, x.p}} {
			ws, p := made(t, 1, 1, fencing(fenceOf(9, 1, x.s), 0), going(4, way[0], 1))
			var want []brief
			if x.passes {
				want = []brief{passed(4, 9)}
			}
			wantBriefs(t, x.what, both(t, x.what, ws, p, going(4, way[1], 2)).events, want...)
			wantTrue(t, x.what+": nothing is due", len(ws[0].Dues()) == 0, true)
			wantWorlds(t, x.what, ws, p)
		}
	}
}

// P19.3: who is told at the same place again enters, leaves and passes nothing, within a fence, on its edge or without, however often; its number and time are those.
func TestSamePlace(t *testing.T) {
	for _, q := range []api.Point{at(5, 5), at(10, 10), at(0, 5), at(11, 5), at(-1, -1), at(bound, bound)} {
		ws, p := made(t, 1, 1, fencing(fenceOf(5, 1, rectOf(0, 0, 10, 10)), 0), updating(1, 5, 5, q, 1))
		for n := range uint32(4) {
			wantEvents(t, fmt.Sprint("again at ", q), both(t, "Update", ws, p, updating(1, n, 100-n, q, 2)).events)
			wantWorlds(t, fmt.Sprint("again at ", q), ws, p)
		}
	}
}

// P19.3: who goes on within a fence, or without, makes nothing happen there, though its way may go out between.
func TestStaysWithin(t *testing.T) {
	ws, p := made(t, 1, 1, fencing(fenceOf(5, 9, holed()), 0))
	wantBriefs(t, "enters", both(t, "Update", ws, p, going(1, at(1, 4), 1)).events, entered(1, 5))
	wantBriefs(t, "over the hole", both(t, "Update", ws, p, going(1, at(8, 5), 2)).events)
	wantTrue(t, "stays since it entered", slices.Equal(ws[0].Dues(), []api.Due{{At: 10, Object: 1, Fence: 5}}), true)
	wantBriefs(t, "into the hole", both(t, "Update", ws, p, going(1, at(5, 5), 3)).events, left(1, 5))
	wantBriefs(t, "on in the hole", both(t, "Update", ws, p, going(1, at(4, 5), 4)).events)
	wantBriefs(t, "onto the hole's edge", both(t, "Update", ws, p, going(1, at(3, 5), 5)).events, entered(1, 5))
	wantWorlds(t, "at the end", ws, p)
}

// P19.3: of an object that is new there is no way, wherever others are.
func TestFirstPlace(t *testing.T) {
	ws, p := made(t, 3, 2, fencing(fenceOf(5, 0, rectOf(-5, -5, 5, 5)), 0), fencing(fenceOf(6, 0, discOf(0, 0, 0)), 0), going(1, at(-10, -10), 0))
	wantBriefs(t, "behind the fences", both(t, "Update", ws, p, going(2, at(10, 10), 1)).events)
	wantBriefs(t, "in both", both(t, "Update", ws, p, going(0, at(0, 0), 1)).events, entered(0, 5), entered(0, 6))
	wantWorlds(t, "at the end", ws, p)
}

// offLattice are places of which at least one coordinate is too far out.
func offLattice() []api.Point {
	return []api.Point{at(bound+1, 0), at(0, bound+1), at(-bound-1, 0), at(0, -bound-1), at(least, 0), at(0, greatest), at(least, least), at(greatest, bound), at(bound, least), at(bound+1, bound+1)}
}

// P19.3: a place off the lattice is refused, of who is there and who is not, ahead of Full; nothing has changed.
func TestPlaceOffLattice(t *testing.T) {
	for _, room := range []int{1, 2} {
		ws, p := made(t, room, 1, fencing(fenceOf(5, 4, rectOf(-bound, -bound, bound, bound)), 0), updating(1, 9, 9, at(bound, bound), 1))
		for _, q := range offLattice() {
			for _, object := range []uint32{0, 1, 2, topmost} {
				wantErr(t, fmt.Sprint(q), both(t, "Update", ws, p, updating(object, 1, 1, q, 2)).err, api.ErrPlace)
			}
		}
		wantWorlds(t, "nothing has changed", ws, p)
	}
}

// P19.3: when the world is full, others are refused, and nothing has changed; those that are there go on, and a forgetting makes room.
func TestUpdateWhenFull(t *testing.T) {
	ws, p := made(t, 2, 1, fencing(fenceOf(5, 4, rectOf(0, 0, 9, 9)), 0), going(1, at(5, 5), 1), going(2, at(50, 50), 1))
	for _, object := range []uint32{0, 3, 1 << 31, topmost} {
		for _, q := range []api.Point{at(5, 5), at(-9, -9)} {
			wantErr(t, "one more", both(t, "Update", ws, p, going(object, q, 2)).err, api.ErrFull)
		}
	}
	wantWorlds(t, "nothing has changed", ws, p)
	wantBriefs(t, "there", both(t, "Update", ws, p, going(2, at(1, 1), 3)).events, entered(2, 5))
	wantBriefs(t, "Forget", both(t, "Forget", ws, p, forgetting(1, 4)).events, left(1, 5))
	wantBriefs(t, "one more now", both(t, "Update", ws, p, going(topmost, at(9, 9), 5)).events, entered(topmost, 5))
	wantErr(t, "and one more", both(t, "Update", ws, p, going(1, at(9, 9), 6)).err, api.ErrFull)
	wantWorlds(t, "at the end", ws, p)
}

// P19.3, P19.10: numbers and times that rise, stay and fall are all applied; the speed is that of layer 18, and events have number, place, clock and speed as they are behind the update.
func TestNumbersAndTimes(t *testing.T) {
	random := rand.New(rand.NewSource(193))
	ws, p := made(t, 1, 2, fencing(fenceOf(5, 1, rectOf(0, 0, 9, 9)), 0), fencing(fenceOf(6, 0, rectOf(20, 0, 29, 9)), 0))
	speed, was, ago := 0.0, at(0, 0), uint32(0)
	told := 0
	for n := range 400 {
		c := updating(1, random.Uint32()>>random.Intn(32), random.Uint32()>>random.Intn(32), at(random.Int31n(40)-5, random.Int31n(12)), random.Uint32()>>random.Intn(32))
		if n > 0 {
			speed = track.Speed(speed, was, c.place, ago, c.time)
		}
		was, ago = c.place, c.time
		for _, w := range ws {
			events, e := w.Update(c.object, c.number, c.time, c.place, c.clock)
			wantErr(t, "Update", e, api.OK)
			for _, x := range events {
				told++
				if x.Object != 1 || x.Number != c.number || x.Place != c.place || x.Clock != c.clock || x.Speed != speed {
					t.Errorf("%v: %v, want the speed %v", c, x, speed)
				}
			}
			want := api.Object{Id: 1, Number: c.number, Time: c.time, Place: c.place, Speed: speed}
			if o := w.Objects()[0]; o.Number != want.Number || o.Time != want.Time || o.Place != want.Place || o.Speed != want.Speed {
				t.Errorf("%v: %v, want %v", c, o, want)
			}
		}
		p.said(c)
	}
	wantTrue(t, "events were told", told > 500, true)
	wantWorlds(t, "at the end", ws, p)
}

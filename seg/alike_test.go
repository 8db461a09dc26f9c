package seg

import (
	"testing"

	"paddock/api"
	"paddock/point"
)

// changed are the same two segments with the ends of either, or themselves, changed about.
func (q quad) changed() []quad {
	a, b, c, d := q[0], q[1], q[2], q[3]
	return []quad{{b, a, c, d}, {a, b, d, c}, {b, a, d, c}, {c, d, a, b}, {d, c, a, b}, {c, d, b, a}, {d, c, b, a}}
}

// P5.4
func TestChangedAbout(t *testing.T) {
	for _, q := range quads() {
		least := reaching(q.distance2())
		for _, w := range q.changed() {
			if Touch(w[0], w[1], w[2], w[3]) != Touch(q[0], q[1], q[2], q[3]) {
				t.Errorf("Touch of %v is not that of %v", w, q)
			}
			for _, r := range []int64{-1, 0, least - 1, least, api.FarRadius} {
				if NearSeg(w[0], w[1], w[2], w[3], r) != NearSeg(q[0], q[1], q[2], q[3], r) {
					t.Errorf("NearSeg of %v is not that of %v, with %d", w, q, r)
				}
			}
		}
		least = reaching(distance2(vecOf(q[0]), vecOf(q[1]), vecOf(q[2])))
		for _, r := range []int64{-1, 0, least - 1, least, api.FarRadius} {
			if Near(q[0], q[1], q[2], r) != Near(q[0], q[2], q[1], r) {
				t.Errorf("Near of %v changes with its ends, with %d", q[:3], r)
			}
		}
	}
}

// rest is 1 less f.
func rest(f api.Frac) api.Frac { return frac(f.Den-f.Num, f.Den) }

// P5.4
func TestMeetChangedAbout(t *testing.T) {
	for _, q := range quads() {
		m := Meet(q[0], q[1], q[2], q[3])
		if got := Meet(q[0], q[1], q[3], q[2]); got != m {
			t.Errorf("%v: %v, with the second one's ends changed about %v", q, m, got)
		}
		want := m
		if m.Kind != api.MeetApart && q[0] != q[1] {
			want.From, want.To = rest(m.To), rest(m.From)
		}
		if got := Meet(q[1], q[0], q[2], q[3]); got != want {
			t.Errorf("%v: %v, with the first one's ends changed about %v", q, m, got)
		}
		back := Meet(q[2], q[3], q[0], q[1])
		if back.Kind != m.Kind || back.Inner != m.Inner {
			t.Errorf("%v: %v, with the segments changed about %v", q, m, back)
		}
	}
}

// P5.5
func TestNearIsOnAndTouch(t *testing.T) {
	on, met := 0, 0
	for _, q := range quads() {
		is := point.On(q[0], q[1], q[2])
		if Near(q[0], q[1], q[2], 0) != is {
			t.Errorf("Near of %v with 0 is not On", q[:3])
		}
		touch := Touch(q[0], q[1], q[2], q[3])
		if NearSeg(q[0], q[1], q[2], q[3], 0) != touch {
			t.Errorf("NearSeg of %v with 0 is not Touch", q)
		}
		if is {
			on++
		}
		if touch {
			met++
		}
	}
	if on == 0 || met == 0 {
		t.Error("none of these is on a segment, or none meet")
	}
}

// P5.5
func TestNearIsNearSeg(t *testing.T) {
	for _, q := range quads() {
		least := reaching(distance2(vecOf(q[0]), vecOf(q[1]), vecOf(q[2])))
		for _, r := range radii(least) {
			if Near(q[0], q[1], q[2], r) != NearSeg(q[0], q[0], q[1], q[2], r) {
				t.Errorf("Near of %v with %d is not NearSeg", q[:3], r)
			}
		}
	}
}

// P5.5
func TestNearStays(t *testing.T) {
	rising := []int64{-1 << 63, -1, 0, 1, 2, 3, 5, 1000, 1 << 20, 1 << 29, edge, 1 << 30, 1518500248, 1518500249, 2 * edge, 1 << 31, 3e9, api.FarRadius - 1, api.FarRadius, api.FarRadius + 1, 1 << 32, 1 << 33, 1<<33 + 1, 1 << 62, 1<<63 - 1}
	for _, q := range quads() {
		near, nearSeg := false, false
		for _, r := range rising {
			was, wasSeg := near, nearSeg
			near, nearSeg = Near(q[0], q[1], q[2], r), NearSeg(q[0], q[1], q[2], q[3], r)
			if was && !near || wasSeg && !nearSeg {
				t.Errorf("%v is near no more with %d", q, r)
			}
			if r >= api.FarRadius && !(near && nearSeg) {
				t.Errorf("%v is not near with %d", q, r)
			}
			if r < 0 && (near || nearSeg) {
				t.Errorf("%v is near with %d", q, r)
			}
		}
	}
}

// motion takes a place to another one.
type motion func(x, y int64) (int64, int64)

func shift(dx, dy int64) motion {
	return func(x, y int64) (int64, int64) { return x + dx, y + dy }
}

// quarters turns by so many quarters about (ox, oy).
func quarters(n int, ox, oy int64) motion {
	return func(x, y int64) (int64, int64) {
		x, y = x-ox, y-oy
		for range n {
			x, y = -y, x
		}
		return ox + x, oy + y
	}
}

// motions are those that leave all distances as they are, of the lattice's own points.
func motions() []motion {
	list := []motion{
		shift(1, 0), shift(-1, 5), shift(12345, -54321), shift(edge, 0), shift(0, -edge), shift(edge, edge), shift(2*edge, -2*edge), shift(1-edge, edge-1),
		func(x, y int64) (int64, int64) { return -x, y },
		func(x, y int64) (int64, int64) { return x, -y },
		func(x, y int64) (int64, int64) { return y, x },
		func(x, y int64) (int64, int64) { return -y, -x },
		func(x, y int64) (int64, int64) { return 2*edge - x, y },
	}
	for n := 1; n < 4; n++ {
		list = append(list, quarters(n, 0, 0), quarters(n, 3, -2), quarters(n, edge, 0), quarters(n, -edge/2, edge/2))
	}
	return list
}

// moved are the ends where a motion takes them, and whether all stay of the lattice.
func (q quad) moved(move motion) (quad, bool) {
	var w quad
	for i, p := range q {
		x, y := move(int64(p.X), int64(p.Y))
		if max(x, -x, y, -y) > edge {
			return quad{}, false
		}
		w[i] = at(int32(x), int32(y))
	}
	return w, true
}

// answers is what all calls say of some points.
type answers struct {
	meeting api.Meeting
	touch   bool
	foot    api.Frac
	near    [5]bool
	nearSeg [5]bool
}

// answers are those with radii about these that just reach.
func (q quad) answers(least, leastSeg int64) answers {
	list := answers{meeting: Meet(q[0], q[1], q[2], q[3]), touch: Touch(q[0], q[1], q[2], q[3]), foot: Foot(q[0], q[1], q[2])}
	for i := range 5 {
		list.near[i] = Near(q[0], q[1], q[2], least+int64(i)-2)
		list.nearSeg[i] = NearSeg(q[0], q[1], q[2], q[3], leastSeg+int64(i)-2)
	}
	return list
}

// P5.6
func TestMoved(t *testing.T) {
	far := 0
	counts := make([]int, len(motions()))
	for _, q := range quads() {
		least := reaching(distance2(vecOf(q[0]), vecOf(q[1]), vecOf(q[2])))
		leastSeg := reaching(q.distance2())
		want := q.answers(least, leastSeg)
		for i, move := range motions() {
			w, ok := q.moved(move)
			if !ok {
				continue
			}
			counts[i]++
			if leastSeg > edge {
				far++
			}
			if got := w.answers(least, leastSeg); got != want {
				t.Errorf("%v became %v: %v became %v", q, w, want, got)
			}
		}
	}
	for i, n := range counts {
		if n == 0 {
			t.Errorf("motion %d moved nothing", i)
		}
	}
	if far == 0 {
		t.Error("nothing far apart was moved")
	}
}

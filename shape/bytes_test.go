package shape

import (
	"bytes"
	"encoding/binary"
	"math/rand"
	"slices"
	"testing"

	"paddock/api"
)

// laid is P9.5's bytes written a second time.
func laid(s api.Shape) []byte {
	list := func(b []byte, v []api.Point) []byte {
		b = binary.LittleEndian.AppendUint16(b, uint16(len(v)))
		for _, p := range v {
			b = binary.LittleEndian.AppendUint32(b, uint32(p.X))
			b = binary.LittleEndian.AppendUint32(b, uint32(p.Y))
		}
		return b
	}
	b := list([]byte{byte(s.Kind)}, s.Verts)
	b = append(b, byte(len(s.Holes)))
	for _, h := range s.Holes {
		b = list(b, h)
	}
	return binary.LittleEndian.AppendUint32(b, uint32(s.Size))
}

// isLaid tells whether bytes are a shape's: whether they end just where their counts say.
func isLaid(b []byte) bool {
	list := func(from int) int {
		if from+2 > len(b) {
			return len(b) + 1
		}
		return from + 2 + 8*int(binary.LittleEndian.Uint16(b[from:]))
	}
	end := list(1)
	if len(b) == 0 || end >= len(b) {
		return false
	}
	holes := int(b[end])
	end++
	for range holes {
		end = list(end)
	}
	return end+4 == len(b)
}

// anyLists is a shape with any numbers, right or not.
func anyLists(r *rand.Rand) api.Shape {
	list := func() []api.Point {
		if r.Intn(9) == 0 {
			return pick(r, [][]api.Point{nil, {}})
		}
		v := make([]api.Point, r.Intn(5))
		for i := range v {
			v[i] = at(int32(r.Uint32()), int32(r.Uint32())>>r.Intn(32))
		}
		return v
	}
	s := api.Shape{Kind: api.ShapeKind(r.Intn(256)), Verts: list(), Size: int32(r.Uint32()) >> r.Intn(32)}
	for range r.Intn(4) {
		s.Holes = append(s.Holes, list())
	}
	return s
}

// bytesOf are the bytes of a shape that is not too long.
func bytesOf(t *testing.T, s api.Shape) []byte {
	t.Helper()
	b, e := Bytes(s)
	if e != api.OK {
		t.Fatalf("%s: %d", text(s), e)
	}
	return b
}

// P9.5
func TestBytesByHand(t *testing.T) {
	for _, x := range []struct {
		s    api.Shape
		want []byte
	}{
		{discOf(0, 0, 5), []byte{2, 1, 0, 0, 0, 0, 0, 0, 0, 0, 0, 0, 5, 0, 0, 0}},
		{api.Shape{}, make([]byte, 8)},
		{api.Shape{Kind: 255, Verts: []api.Point{}, Holes: [][]api.Point{}, Size: -1}, []byte{255, 0, 0, 0, 255, 255, 255, 255}},
		{api.Shape{Size: least}, []byte{0, 0, 0, 0, 0, 0, 0, 128}},
		{api.Shape{Size: greatest}, []byte{0, 0, 0, 0, 255, 255, 255, 127}},
		{rectOf(1, -2, 258, greatest), []byte{3, 2, 0, 1, 0, 0, 0, 254, 255, 255, 255, 2, 1, 0, 0, 255, 255, 255, 127, 0, 0, 0, 0, 0}},
		{api.Shape{Kind: 1, Holes: [][]api.Point{nil, of(3, 4), {}}, Size: 9}, []byte{1, 0, 0, 3, 0, 0, 1, 0, 3, 0, 0, 0, 4, 0, 0, 0, 0, 0, 9, 0, 0, 0}},
		{api.Shape{Kind: 4, Verts: of(least, bound), Size: bound}, []byte{4, 1, 0, 0, 0, 0, 128, 255, 255, 255, 63, 0, 255, 255, 255, 63}},
	} {
		if got, e := Bytes(x.s); e != api.OK || !bytes.Equal(got, x.want) {
			t.Errorf("%s: % x, %d, want % x", text(x.s), got, e, x.want)
		}
		if got, e := Open(x.want); e != api.OK || !Same(got, x.s) {
			t.Errorf("% x: %s, %d", x.want, text(got), e)
		}
	}
}

// P9.5, P9.8
func TestThereAndBack(t *testing.T) {
	r := rand.New(rand.NewSource(15))
	list := slices.Clone(right())
	for range 3000 {
		list = append(list, anyLists(r))
	}
	for _, s := range list {
		b := bytesOf(t, s)
		if !bytes.Equal(b, laid(s)) {
			t.Errorf("%s: % x", text(s), b)
		}
		back, e := Open(b)
		if e != api.OK || !Same(back, s) || !Same(s, back) || Check(back) != Check(s) {
			t.Errorf("%s: %s, %d", text(s), text(back), e)
		}
	}
}

// P9.5, P9.8: bytes that are any, and bytes that are a shape's but for something.
func TestOpenOfAnyBytes(t *testing.T) {
	r := rand.New(rand.NewSource(16))
	var seen [2]int
	for i := range 30000 {
		b := laid(anyLists(r))
		switch i % 5 {
		case 0:
			b = b[:r.Intn(len(b)+1)]
		case 1:
			b[r.Intn(len(b))] ^= byte(1 << r.Intn(8))
		case 2:
			b = append(b, make([]byte, 1+r.Intn(9))...)
		case 3:
			b = make([]byte, r.Intn(40))
			for j := range b {
				b[j] = byte(r.Intn(256)) >> r.Intn(9)
			}
		}
		kept := slices.Clone(b)
		s, e := Open(b)
		want := isLaid(b)
		seen[number(want)]++
		switch {
		case want && (e != api.OK || !bytes.Equal(bytesOf(t, s), b)):
			t.Errorf("% x: %s, %d", b, text(s), e)
		case !want && (e != api.ErrBytes || s.Kind != 0 || s.Verts != nil || s.Holes != nil || s.Size != 0):
			t.Errorf("% x: %s, %d", b, text(s), e)
		case !bytes.Equal(b, kept):
			t.Errorf("% x is changed", kept)
		}
	}
	if min(seen[0], seen[1]) < 5000 {
		t.Errorf("not both answers are asked for: %v", seen)
	}
}

// P9.5: cut short at each place, and with one byte more.
func TestOpenCutShort(t *testing.T) {
	for _, s := range []api.Shape{{}, example(), discOf(0, 0, 5), {Kind: 9, Holes: [][]api.Point{nil, nil, of(1, 1)}}} {
		b := bytesOf(t, s)
		for n := range b {
			if got, e := Open(b[:n]); e != api.ErrBytes || !Same(got, api.Shape{}) {
				t.Errorf("%d bytes of % x: %s, %d", n, b, text(got), e)
			}
			// What stands behind the bytes is not theirs.
			if _, e := Open(b[:n:n]); e != api.ErrBytes {
				t.Errorf("%d bytes of % x: %d", n, b, e)
			}
		}
		for _, more := range [][]byte{{0}, {1}, {0, 0, 0, 0}, b} {
			if got, e := Open(append(slices.Clone(b), more...)); e != api.ErrBytes || !Same(got, api.Shape{}) {
				t.Errorf("% x and more: %s, %d", b, text(got), e)
			}
		}
	}
	for _, b := range [][]byte{nil, {}, {1}, {1, 255, 255}, {1, 255, 255, 0, 0, 0, 0, 0}, {1, 0, 0, 255, 0, 0, 0, 0}, {1, 0, 0, 1, 255, 255, 0, 0, 0, 0}, {1, 1, 0, 0, 0, 0, 0, 0}, {1, 0, 1, 0, 0, 0, 0, 0, 0, 0, 0, 0, 0, 0, 0, 0}} {
		if got, e := Open(b); e != api.ErrBytes || !Same(got, api.Shape{}) {
			t.Errorf("% x: %s, %d", b, text(got), e)
		}
	}
}

// P9.5, P9.8: the longest lists, and longer ones.
func TestLongLists(t *testing.T) {
	r := rand.New(rand.NewSource(17))
	many := make([]api.Point, 65536)
	for i := range many {
		many[i] = at(int32(r.Uint32()), int32(r.Uint32()))
	}
	most := many[:65535]
	holes := make([][]api.Point, 256)
	holes[254] = of(7, 8)
	for _, s := range []api.Shape{{Kind: 1, Verts: most}, {Kind: 1, Holes: [][]api.Point{nil, most, most}}, {Kind: 1, Verts: of(1, 2), Holes: holes[:255], Size: 3}} {
		b := bytesOf(t, s)
		back, e := Open(b)
		if !bytes.Equal(b, laid(s)) || e != api.OK || !Same(back, s) {
			t.Errorf("long lists: %d bytes, %d", len(b), e)
		}
		if _, e := Open(b[:len(b)-1]); e != api.ErrBytes {
			t.Errorf("long lists cut short: %d", e)
		}
	}
	for i, s := range []api.Shape{{Verts: many}, {Kind: 1, Holes: [][]api.Point{many}}, {Kind: 1, Holes: [][]api.Point{nil, of(1, 1), many}}, {Kind: 1, Holes: holes}, {Kind: 1, Verts: many, Holes: holes}, {Kind: 7, Holes: make([][]api.Point, 512)}} {
		if b, e := Bytes(s); e != api.ErrLong || b != nil {
			t.Errorf("too long %d: %d bytes, %d", i, len(b), e)
		}
	}
}

// P9.4
func TestSame(t *testing.T) {
	s := polyOf(of(0, 0, 9, 0, 9, 9), of(1, 1, 2, 1, 2, 2), of(5, 1, 6, 1, 6, 2))
	if !Same(s, s) || !Same(s, cloned(s)) || !Same(api.Shape{}, api.Shape{}) {
		t.Error("not the same as itself")
	}
	for i, change := range []func(s *api.Shape){
		func(s *api.Shape) { s.Kind = api.Disc },
		func(s *api.Shape) { s.Kind = 255 },
		func(s *api.Shape) { s.Size = 1 },
		func(s *api.Shape) { s.Size = -1 },
		func(s *api.Shape) { s.Verts[0].X++ },
		func(s *api.Shape) { s.Verts[2].Y++ },
		func(s *api.Shape) { s.Verts = s.Verts[:2] },
		func(s *api.Shape) { s.Verts = append(s.Verts, at(0, 0)) },
		func(s *api.Shape) { s.Verts = nil },
		func(s *api.Shape) { s.Verts[0], s.Verts[1] = s.Verts[1], s.Verts[0] },
		func(s *api.Shape) { s.Verts = begun(s.Verts, 1) },
		func(s *api.Shape) { s.Holes = nil },
		func(s *api.Shape) { s.Holes = s.Holes[:1] },
		func(s *api.Shape) { s.Holes = s.Holes[1:] },
		func(s *api.Shape) { s.Holes = append(s.Holes, nil) },
		func(s *api.Shape) { s.Holes[0][1].X++ },
		func(s *api.Shape) { s.Holes[1][2].Y-- },
		func(s *api.Shape) { s.Holes[1] = s.Holes[1][:2] },
		func(s *api.Shape) { s.Holes[1] = nil },
		func(s *api.Shape) { s.Holes[1] = append(s.Holes[1], at(0, 0)) },
		func(s *api.Shape) { s.Holes[0], s.Holes[1] = s.Holes[1], s.Holes[0] },
	} {
		other := cloned(s)
		change(&other)
		if Same(s, other) || Same(other, s) || !Same(other, cloned(other)) {
			t.Errorf("change %d is not seen", i)
		}
	}
	none := []api.Point{}
	if !Same(api.Shape{Verts: none, Holes: [][]api.Point{}}, api.Shape{}) || !Same(polyOf(none, none, nil), polyOf(nil, nil, none)) {
		t.Error("an empty list is as none")
	}
	if Same(polyOf(nil), polyOf(nil, nil)) || Same(polyOf(nil, nil), polyOf(nil)) || Same(polyOf(nil, nil), polyOf(nil, nil, nil)) {
		t.Error("a hole of no points is one")
	}
}

// P0.1: what is handed in is not changed, spare room included.
func TestArgumentsStay(t *testing.T) {
	verts := append(square(0, 0, 9), of(7, 7, 8, 8)...)
	holes := [][]api.Point{append(square(3, 3, 3), at(5, 5))[:4], square(1, 1, 1), nil, verts[4:]}
	s := polyOf(verts[:4], holes[:2]...)
	whole := polyOf(verts, holes...)
	before := cloned(whole)
	before.Holes[0] = slices.Clone(holes[0][:5])
	Check(s)
	Of(s)
	Covers(s, at(1, 1))
	Meets(s, at(4, 4), at(20, 20))
	Bounds(s)
	Same(s, whole)
	Bytes(s)
	whole.Holes = slices.Clone(holes)
	whole.Holes[0] = holes[0][:5]
	if !Same(whole, before) {
		t.Errorf("%s is changed", text(s))
	}
	b := append(laid(s), 1, 2, 3)
	kept := slices.Clone(b)
	Open(b[:len(b)-3])
	if !bytes.Equal(b, kept) {
		t.Error("bytes are changed")
	}
}

// P0.1: answers are new memory, each list by itself.
func TestAnswersAreNew(t *testing.T) {
	s := polyOf(square(0, 0, 9), square(1, 1, 1), square(3, 3, 3))
	b := bytesOf(t, s)
	first, _ := Open(b)
	second, _ := Open(b)
	clear(b)
	lists := append([][]api.Point{first.Verts}, first.Holes...)
	for _, v := range lists {
		grown := append(v, at(7, 7), at(7, 7), at(7, 7))
		grown[0] = at(6, 6)
		clear(v[:cap(v)])
	}
	clear(first.Holes[:cap(first.Holes)])
	if !Same(second, s) {
		t.Errorf("%s: another answer's memory", text(second))
	}
	third, _ := Open(laid(s))
	for i, v := range append([][]api.Point{third.Verts}, third.Holes...) {
		if want := append([][]api.Point{s.Verts}, s.Holes...)[i]; !slices.Equal(v, want) {
			t.Errorf("list %d: %s", i, points(v...))
		}
		_ = append(v, at(7, 7), at(7, 7), at(7, 7))
		clear(v)
	}
	one, other := bytesOf(t, s), bytesOf(t, s)
	clear(one[:cap(one)])
	if !bytes.Equal(other, laid(s)) {
		t.Error("bytes of another answer")
	}
}

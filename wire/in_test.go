package wire

import (
	"bytes"
	"encoding/binary"
	"math"
	"math/rand"
	"strings"
	"testing"

	"paddock/api"
)

// wantTake fails, unless Take answers of n bytes what the library does, goes on behind them, and finds fewer too few.
func wantTake[N Whole](t *testing.T, n int, b []byte) {
	t.Helper()
	var want N
	if err := binary.Read(bytes.NewReader(b), binary.LittleEndian, &want); err != nil {
		t.Fatal(err)
	}
	for _, lead := range []int{0, 1, 3} {
		all := append(bytes.Repeat([]byte{0xaa}, lead), b[:n]...)
		for _, behind := range []int{0, 1, 9} {
			i := stands(t, append(bytes.Clone(all), make([]byte, behind)...), lead)
			if got := Take[N](i); got != want {
				t.Errorf("% x: %v, want %v", b[:n], got, want)
			}
			wantRight(t, i, lead+n, behind > 0)
		}
		for short := range n {
			i := stands(t, all[:lead+short], lead)
			if got := Take[N](i); got != 0 {
				t.Errorf("%d bytes of %d: %v", short, n, got)
			}
			wantFault(t, i, lead, api.ErrEnds)
		}
	}
}

// stands is an In of b that stands at a place.
func stands(t *testing.T, b []byte, place int) *In {
	t.Helper()
	i := Read(b)
	for range place {
		Take[uint8](i)
	}
	wantRight(t, i, place, len(b) > place)
	return i
}

// P3.2
func TestTake(t *testing.T) {
	r := rand.New(rand.NewSource(5))
	lists := [][]byte{make([]byte, 8), bytes.Repeat([]byte{0xff}, 8), bytes.Repeat([]byte{0x80}, 8), bytes.Repeat([]byte{0x7f}, 8), {1, 2, 3, 4, 5, 6, 7, 8}}
	for range 20 {
		lists = append(lists, noise(r, 8))
	}
	for _, b := range lists {
		wantTake[uint8](t, 1, b)
		wantTake[int8](t, 1, b)
		wantTake[letter](t, 1, b)
		wantTake[uint16](t, 2, b)
		wantTake[int16](t, 2, b)
		wantTake[short](t, 2, b)
		wantTake[uint32](t, 4, b)
		wantTake[int32](t, 4, b)
		wantTake[colour](t, 4, b)
		wantTake[uint64](t, 8, b)
		wantTake[int64](t, 8, b)
		wantTake[instant](t, 8, b)
	}
}

// P3.2: the rows of the examples that take.
func TestTakenByHand(t *testing.T) {
	i := Read([]byte{0xfe, 0xff})
	if v := Take[int16](i); v != -2 {
		t.Errorf("Take[int16]: %d", v)
	}
	wantRight(t, i, 2, false)
	i = Read([]byte{0xfe})
	if v := Take[int16](i); v != 0 {
		t.Errorf("Take[int16] of one byte: %d", v)
	}
	wantFault(t, i, 0, api.ErrEnds)
	i = Read([]byte{7, 8})
	if v := Take[uint8](i); v != 7 {
		t.Errorf("the first of two: %d", v)
	}
	wantRight(t, i, 1, true)
	if v := Take[uint8](i); v != 8 {
		t.Errorf("the second of two: %d", v)
	}
	wantRight(t, i, 2, false)
}

// P3.2
func TestFloatTaken(t *testing.T) {
	for _, x := range append(reals(), nan) {
		bits := math.Float64bits(x)
		if x != x {
			bits = nans[0]
		}
		b := binary.LittleEndian.AppendUint64([]byte{9}, bits)
		for _, behind := range []int{0, 1} {
			i := stands(t, append(bytes.Clone(b), make([]byte, behind)...), 1)
			if got := i.Float(); !sameBits(got, x) {
				t.Errorf("%x: %v, want %v", bits, got, x)
			}
			wantRight(t, i, 9, behind > 0)
		}
		for short := range 8 {
			i := stands(t, b[:1+short], 1)
			if got := i.Float(); math.Float64bits(got) != 0 {
				t.Errorf("%d bytes of 8: %v", short, got)
			}
			wantFault(t, i, 1, api.ErrEnds)
		}
	}
}

// P3.2
func TestOtherNaNs(t *testing.T) {
	for _, bits := range nans[1:] {
		i := stands(t, binary.LittleEndian.AppendUint64([]byte{9, 9}, bits), 2)
		if got := i.Float(); math.Float64bits(got) != 0 {
			t.Errorf("%x: %v", bits, got)
		}
		wantFault(t, i, 2, api.ErrFloat)
	}
}

// P3.2
func TestTextTaken(t *testing.T) {
	for _, n := range []int{0, 1, 2, 255, 256, 300, 65534, 65535} {
		s := strings.Repeat("\x00a\xffé", n/5+1)[:n]
		b := append(append([]byte{9}, lengthOf(n)...), s...)
		for _, most := range []int{n, n + 1, 65535, math.MaxInt} {
			for _, behind := range []int{0, 3} {
				i := stands(t, append(bytes.Clone(b), make([]byte, behind)...), 1)
				if got := i.Text(most); got != s {
					t.Errorf("a text of %d bytes, most %d: %d bytes", n, most, len(got))
				}
				wantRight(t, i, len(b), behind > 0)
			}
		}
		for _, short := range []int{0, 1, 2, 1 + n/2, 1 + n} {
			if short > 1+n {
				continue
			}
			i := stands(t, b[:1+short], 1)
			if got := i.Text(n); got != "" {
				t.Errorf("a text of %d bytes that ends behind %d: %q", n, short, got)
			}
			wantFault(t, i, 1, api.ErrEnds)
		}
	}
}

// P3.2: too long is asked ahead of the text's own bytes, behind those of its length.
func TestTextOver(t *testing.T) {
	for _, c := range []struct {
		b     []byte
		most  int
		fault api.Errno
	}{
		{[]byte{2, 0, 'a', 'b'}, 1, api.ErrOver},
		{[]byte{2, 0, 'a', 'b'}, 0, api.ErrOver},
		{[]byte{2, 0, 'a', 'b'}, -1, api.ErrOver},
		{[]byte{2, 0, 'a', 'b'}, math.MinInt, api.ErrOver},
		{[]byte{2, 0, 'a'}, 2, api.ErrEnds},
		{[]byte{2, 0, 'a'}, math.MaxInt, api.ErrEnds},
		{[]byte{2, 0, 'a'}, 1, api.ErrOver},
		{[]byte{2, 0}, 1, api.ErrOver},
		{[]byte{2, 0}, 2, api.ErrEnds},
		{[]byte{0xff, 0xff}, 65534, api.ErrOver},
		{[]byte{0xff, 0xff}, 65535, api.ErrEnds},
		{[]byte{0, 1}, 255, api.ErrOver},
		{[]byte{9}, 1, api.ErrEnds},
		{[]byte{9}, -1, api.ErrEnds},
		{nil, 0, api.ErrEnds},
		{nil, math.MinInt, api.ErrEnds},
	} {
		i := Read(c.b)
		if got := i.Text(c.most); got != "" {
			t.Errorf("Text(%d) of % x: %q", c.most, c.b, got)
		}
		wantFault(t, i, 0, c.fault)
	}
	for _, most := range []int{0, -1, math.MinInt} {
		i := Read([]byte{0, 0})
		if got := i.Text(most); got != "" {
			t.Errorf("Text(%d) of no bytes: %q", most, got)
		}
		wantRight(t, i, 2, false)
	}
}

// P3.2
func TestCount(t *testing.T) {
	for _, c := range []struct {
		b     []byte
		most  int
		want  int
		fault api.Errno
	}{
		{[]byte{10, 0}, 10, 10, api.OK},
		{[]byte{10, 0}, 9, 0, api.ErrOver},
		{[]byte{10, 0}, 11, 10, api.OK},
		{[]byte{10, 0}, math.MaxInt, 10, api.OK},
		{[]byte{10, 0}, -1, 0, api.ErrOver},
		{[]byte{10, 0}, math.MinInt, 0, api.ErrOver},
		{[]byte{0, 1}, 256, 256, api.OK},
		{[]byte{0, 1}, 255, 0, api.ErrOver},
		{[]byte{0xff, 0xff}, 65535, 65535, api.OK},
		{[]byte{0xff, 0xff}, 65534, 0, api.ErrOver},
		{[]byte{0, 0x80}, 40000, 32768, api.OK},
		{[]byte{0, 0}, 0, 0, api.OK},
		{[]byte{0, 0}, -1, 0, api.OK},
		{[]byte{0, 0}, math.MinInt, 0, api.OK},
		{[]byte{1, 0}, 0, 0, api.ErrOver},
		{[]byte{1}, 9, 0, api.ErrEnds},
		{[]byte{1}, -9, 0, api.ErrEnds},
		{nil, 9, 0, api.ErrEnds},
	} {
		i := stands(t, append([]byte{9, 9, 9}, c.b...), 3)
		if got := i.Count(c.most); got != c.want {
			t.Errorf("Count(%d) of % x: %d, want %d", c.most, c.b, got, c.want)
		}
		if c.fault != api.OK {
			wantFault(t, i, 3, c.fault)
		} else {
			wantRight(t, i, 5, false)
		}
	}
}

// P3.2: the first fault stays, whatever is taken behind it.
func TestFirstFaultStays(t *testing.T) {
	other := binary.LittleEndian.AppendUint64(nil, nans[1])
	for _, c := range []struct {
		b     []byte
		take  func(i *In)
		fault api.Errno
	}{
		{append([]byte{5, 0}, other...), func(i *In) { i.Text(4) }, api.ErrOver},
		{append([]byte{5, 0}, other...), func(i *In) { i.Count(4) }, api.ErrOver},
		{other, func(i *In) { i.Float() }, api.ErrFloat},
		{[]byte{1, 0, 0, 0, 0, 0, 0}, func(i *In) { Take[uint64](i) }, api.ErrEnds},
		{[]byte{9, 0, 0, 0}, func(i *In) { i.Text(9) }, api.ErrEnds},
	} {
		i := stands(t, append([]byte{1}, c.b...), 1)
		c.take(i)
		wantFault(t, i, 1, c.fault)
		c.take(i)
		wantFault(t, i, 1, c.fault)
	}
}

// P3.2, P0.1: an In has a copy of what it was given, and leaves that as it is.
func TestReadCopies(t *testing.T) {
	room := []byte{1, 2, 3, 4, 5, 6, 7, 8}
	i := Read(room[:2])
	room[1] = 9
	if a, b := Take[uint8](i), Take[uint8](i); a != 1 || b != 2 {
		t.Errorf("taken: %d, %d", a, b)
	}
	wantRight(t, i, 2, false)
	if v := Take[uint8](i); v != 0 {
		t.Errorf("taken behind the end: %d", v)
	}
	wantFault(t, i, 2, api.ErrEnds)
	if !bytes.Equal(room, []byte{1, 9, 3, 4, 5, 6, 7, 8}) {
		t.Errorf("what was handed in is % x", room)
	}
}

// P3.3: a zero In is as Read of no bytes.
func TestNoBytes(t *testing.T) {
	var zero In
	for _, i := range []*In{Read(nil), Read([]byte{}), {}, &zero} {
		wantRight(t, i, 0, false)
		if v := Take[uint8](i); v != 0 {
			t.Errorf("taken of no bytes: %d", v)
		}
		wantFault(t, i, 0, api.ErrEnds)
	}
}

// P3.3
func TestNilIn(t *testing.T) {
	var i *In
	wantFault(t, i, 0, api.ErrNil)
}

package wire

import (
	"bytes"
	"encoding/binary"
	"math"
	"math/rand"
	"strings"
	"testing"
)

// wantLaid fails, unless an Out has just these bytes.
func wantLaid(t *testing.T, o *Out, want []byte) {
	t.Helper()
	if got := o.Bytes(); !bytes.Equal(got, want) || o.Len() != len(want) {
		t.Errorf("laid: %d bytes, % x, want %d, % x", o.Len(), head(got), len(want), head(want))
	}
}

// head is the first bytes of many, to be told.
func head(b []byte) []byte { return b[:min(len(b), 32)] }

// wantPut fails, unless Put lays v as the library does, behind what is there.
func wantPut[N Whole](t *testing.T, vs ...N) {
	t.Helper()
	for _, v := range vs {
		var o Out
		Put(&o, v)
		var b bytes.Buffer
		if err := binary.Write(&b, binary.LittleEndian, v); err != nil {
			t.Fatal(err)
		}
		wantLaid(t, &o, b.Bytes())
		Put(&o, v)
		wantLaid(t, &o, append(b.Bytes(), b.Bytes()...))
	}
}

// P3.1
func TestPut(t *testing.T) {
	for k := range 64 {
		v := uint64(0xf7e6d5c4b3a29180) >> k
		wantPut(t, uint8(v), 1<<7, 1<<8-1, 0)
		wantPut(t, uint16(v), 1<<15, 1<<16-1, 0)
		wantPut(t, uint32(v), 1<<31, 1<<32-1, 0)
		wantPut(t, v, 1<<63, 1<<64-1, 0)
		wantPut(t, int8(v), math.MinInt8, math.MaxInt8, -1, 0)
		wantPut(t, int16(v), math.MinInt16, math.MaxInt16, -1, 0)
		wantPut(t, int32(v), math.MinInt32, math.MaxInt32, -1, 0)
		wantPut(t, int64(v), math.MinInt64, math.MaxInt64, -1, 0)
		wantPut(t, letter(v))
		wantPut(t, short(v))
		wantPut(t, colour(v))
		wantPut(t, instant(v))
	}
}

// P3.1: the first two rows of the examples.
func TestLaidByHand(t *testing.T) {
	var o Out
	Put(&o, int16(-2))
	Put(&o, uint8(7))
	o.Text("ab")
	o.Float(1)
	wantLaid(t, &o, []byte{0xfe, 0xff, 7, 2, 0, 'a', 'b', 0, 0, 0, 0, 0, 0, 0xf0, 0x3f})
	var noughts Out
	noughts.Float(nought)
	noughts.Float(0)
	wantLaid(t, &noughts, []byte{0, 0, 0, 0, 0, 0, 0, 0x80, 0, 0, 0, 0, 0, 0, 0, 0})
	var number Out
	Put(&number, uint32(0x04030201))
	Put(&number, instant(-1))
	wantLaid(t, &number, []byte{1, 2, 3, 4, 0xff, 0xff, 0xff, 0xff, 0xff, 0xff, 0xff, 0xff})
}

// P3.1
func TestFloatLaid(t *testing.T) {
	for _, x := range reals() {
		var o Out
		o.Float(x)
		wantLaid(t, &o, binary.LittleEndian.AppendUint64(nil, math.Float64bits(x)))
	}
	for _, bits := range nans {
		var o Out
		o.Float(math.Float64frombits(bits))
		wantLaid(t, &o, []byte{1, 0, 0, 0, 0, 0, 0xf8, 0x7f})
	}
}

// P3.1
func TestTextLaid(t *testing.T) {
	for _, n := range []int{0, 1, 2, 125, 126, 127, 128, 129, 255, 256, 257, 65534, 65535, 65536, 65537, 70000, 131071, 131072} {
		s := strings.Repeat("\x00a\xffé", n/5+1)[:n]
		kept := min(n, 65535)
		want := append(lengthOf(kept), s[:kept]...)
		var o Out
		o.Text(s)
		wantLaid(t, &o, want)
		Put(&o, uint8(9))
		wantLaid(t, &o, append(want, 9))
	}
}

// P3.1
func TestLayingGoesOn(t *testing.T) {
	r := rand.New(rand.NewSource(3))
	var o Out
	var want []byte
	wantLaid(t, &o, nil)
	for range 1500 {
		switch r.Intn(4) {
		case 0:
			v := r.Uint64()
			Put(&o, v)
			want = binary.LittleEndian.AppendUint64(want, v)
		case 1:
			v := r.Float64()
			o.Float(v)
			want = binary.LittleEndian.AppendUint64(want, math.Float64bits(v))
		case 2:
			s := noise(r, r.Intn(300))
			o.Text(string(s))
			want = append(append(want, lengthOf(len(s))...), s...)
		case 3:
			v := int8(r.Intn(256))
			Put(&o, v)
			want = append(want, byte(v))
		}
		wantLaid(t, &o, want)
	}
}

// P3.1, P0.1: what is told is new memory, spare room included.
func TestBytesAreNew(t *testing.T) {
	for _, n := range []int{1, 127, 128, 129, 500} {
		var o Out
		want := bytes.Repeat([]byte{5}, n)
		for range n {
			Put(&o, uint8(5))
		}
		got := o.Bytes()
		clear(got[:cap(got)])
		wantLaid(t, &o, want)
		_ = append(o.Bytes(), 1, 2, 3)
		Put(&o, uint8(6))
		wantLaid(t, &o, append(want, 6))
	}
}

// P3.1
func TestCopyGoesOnApart(t *testing.T) {
	for n := range 300 {
		var o Out
		want := bytes.Repeat([]byte{1}, n)
		for range n {
			Put(&o, uint8(1))
		}
		p := o
		Put(&p, uint8(2))
		q := o
		Put(&o, uint8(3))
		q.Text(strings.Repeat("b", 200))
		r := p
		Put(&p, uint8(4))
		Put(&r, uint8(5))
		wantLaid(t, &o, append(bytes.Clone(want), 3))
		wantLaid(t, &p, append(bytes.Clone(want), 2, 4))
		wantLaid(t, &q, append(append(bytes.Clone(want), 200, 0), strings.Repeat("b", 200)...))
		wantLaid(t, &r, append(bytes.Clone(want), 2, 5))
	}
}

// P3.1: copies of copies, also back onto the one that they were copied from.
func TestCopiesOfCopies(t *testing.T) {
	r := rand.New(rand.NewSource(4))
	var outs [6]Out
	var wants [6][]byte
	for k := range 4000 {
		from, to := r.Intn(6), r.Intn(6)
		if r.Intn(3) == 0 {
			outs[to], wants[to] = outs[from], bytes.Clone(wants[from])
		} else {
			s := noise(r, r.Intn(40))
			outs[to].Text(string(s))
			wants[to] = append(append(wants[to], lengthOf(len(s))...), s...)
		}
		if k%500 == 499 {
			outs[to], wants[to] = Out{}, nil
		}
		for j := range outs {
			if !bytes.Equal(outs[j].Bytes(), wants[j]) {
				t.Fatalf("step %d: the Out %d has other bytes than were laid on it", k, j)
			}
		}
	}
}

// P3.1: as many bytes as a saved engine may have are laid without copying all of them again and again.
func TestMuchIsLaid(t *testing.T) {
	var o Out
	const n = 1 << 20
	for k := range n {
		Put(&o, uint32(k))
	}
	b := o.Bytes()
	if o.Len() != 4*n || len(b) != 4*n {
		t.Fatalf("%d bytes, %d told", o.Len(), len(b))
	}
	for _, k := range []int{0, 1, 31, 32, 33, n / 2, n - 1} {
		if v := binary.LittleEndian.Uint32(b[4*k:]); v != uint32(k) {
			t.Errorf("the number %d is %d", k, v)
		}
	}
}

// P3.1
func TestNilOut(t *testing.T) {
	var o *Out
	Put(o, int8(-1))
	Put(o, uint64(1))
	Put(o, short(4))
	o.Float(1)
	o.Float(nan)
	o.Text("")
	o.Text(strings.Repeat("x", 70000))
	if o != nil || o.Len() != 0 || len(o.Bytes()) != 0 {
		t.Errorf("a nil Out: %d bytes, % x", o.Len(), o.Bytes())
	}
}

package wire

import (
	"bytes"
	"math"
	"math/rand"
	"strings"
	"testing"

	"paddock/api"
)

// item is something that is laid down: how it is laid, and whether what is taken is the same.
type item struct {
	lay  func(o *Out)
	same func(i *In) bool
}

// whole is a number that is laid down.
func whole[N Whole](v N) item {
	return item{func(o *Out) { Put(o, v) }, func(i *In) bool { return Take[N](i) == v }}
}

// real is a real number that is laid down.
func real(v float64) item {
	return item{func(o *Out) { o.Float(v) }, func(i *In) bool { return sameBits(i.Float(), v) }}
}

// text is a text that is laid down, of which most bytes may come back.
func text(s string, most int) item {
	return item{func(o *Out) { o.Text(s) }, func(i *In) bool { return i.Text(most) == s[:min(len(s), 65535)] }}
}

// count is a count that is laid down.
func count(n uint16, most int) item {
	return item{func(o *Out) { Put(o, n) }, func(i *In) bool { return i.Count(most) == int(n) }}
}

// anything is an item of any kind.
func anything(r *rand.Rand) item {
	v := r.Uint64() >> r.Intn(64)
	switch r.Intn(13) {
	case 0:
		return whole(uint8(v))
	case 1:
		return whole(int8(v))
	case 2:
		return whole(uint16(v))
	case 3:
		return whole(int16(v))
	case 4:
		return whole(uint32(v))
	case 5:
		return whole(int32(v))
	case 6:
		return whole(v)
	case 7:
		return whole(int64(v))
	case 8:
		return whole(short(v))
	case 9:
		return real(math.Float64frombits(r.Uint64()))
	case 10:
		return real([]float64{0, nought, nan, inf, -inf}[r.Intn(5)])
	case 11:
		s := string(noise(r, r.Intn(200)))
		return text(s, len(s)+r.Intn(2)*r.Intn(9))
	}
	return count(uint16(v), int(uint16(v))+r.Intn(2)*r.Intn(9))
}

// P3.7: there and back.
func TestThereAndBack(t *testing.T) {
	r := rand.New(rand.NewSource(13))
	for range 2000 {
		var o Out
		var items []item
		var ends []int
		for range r.Intn(20) {
			it := anything(r)
			it.lay(&o)
			items, ends = append(items, it), append(ends, o.Len())
		}
		i := Read(o.Bytes())
		for k, it := range items {
			if !it.same(i) || i.At() != ends[k] {
				t.Fatalf("the item %d of %d comes back as another", k, len(items))
			}
		}
		wantRight(t, i, o.Len(), false)
	}
}

// P3.7
func TestLongTextsBack(t *testing.T) {
	for _, n := range []int{65534, 65535, 65536, 70000, 140000} {
		var o Out
		it := text(strings.Repeat("abc", n/3+1)[:n], 65535)
		it.lay(&o)
		it.lay(&o)
		i := Read(o.Bytes())
		if !it.same(i) || !it.same(i) || i.End() != api.OK {
			t.Errorf("a text of %d bytes comes back as another: %v", n, i.End())
		}
	}
}

// again takes something of any kind, and lays what it took.
func again(r *rand.Rand, i *In, o *Out) {
	switch r.Intn(8) {
	case 0:
		Put(o, Take[uint8](i))
	case 1:
		Put(o, Take[int16](i))
	case 2:
		Put(o, Take[colour](i))
	case 3:
		Put(o, Take[instant](i))
	case 4:
		o.Float(i.Float())
	case 5:
		o.Text(i.Text(r.Intn(40)))
	case 6:
		Put(o, uint16(i.Count(r.Intn(70000))))
	case 7:
		Put(o, Take[int8](i))
	}
}

// P3.7: bytes that are taken whole are laid again.
func TestBackAndThere(t *testing.T) {
	r := rand.New(rand.NewSource(14))
	whole := 0
	for range 20000 {
		b := noise(r, r.Intn(40))
		for k := range b {
			if r.Intn(2) == 0 {
				b[k] = []byte{0, 0, 1, 2, 0x7f, 0x80, 0xf8, 0xf0, 0xff}[r.Intn(9)]
			}
		}
		if r.Intn(4) == 0 && len(b) >= 8 {
			copy(b, []byte{1, 0, 0, 0, 0, 0, 0xf8, 0x7f})
		}
		i, o := Read(b), &Out{}
		for i.End() == api.ErrLeft {
			again(r, i, o)
		}
		if i.End() != api.OK {
			continue
		}
		whole++
		if !bytes.Equal(o.Bytes(), b) {
			t.Fatalf("% x were taken, % x are laid", b, o.Bytes())
		}
	}
	if whole < 1000 {
		t.Errorf("only %d lists of bytes were taken whole", whole)
	}
}

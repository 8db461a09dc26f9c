package wire

import (
	"bytes"
	"encoding/binary"
	"hash/crc32"
	"math"
	"math/rand"
	"testing"

	"paddock/api"
)

var (
	inf    = math.Inf(1)
	nan    = math.NaN()
	nought = math.Copysign(0, -1)
)

// Named numbers: the constraint has these too.
type (
	letter  uint8
	short   int16
	colour  uint32
	instant int64
)

// nans are bits of NaNs, the one that is laid down first.
var nans = []uint64{
	0x7ff8000000000001, 0x7ff8000000000000, 0x7ff8000000000002, 0x7ff0000000000001, 0x7fffffffffffffff,
	0xfff8000000000001, 0xfff8000000000000, 0xfff0000000000001, 0xffffffffffffffff, 0x7ff4000000000001,
}

// reals are numbers of all kinds but NaN, the same in each run.
func reals() []float64 {
	list := []float64{0, nought, 1, -1, 0.1, 1.5, inf, -inf, math.MaxFloat64, -math.MaxFloat64, math.SmallestNonzeroFloat64, -math.SmallestNonzeroFloat64, 0x1p-1022, 1 << 53}
	r := rand.New(rand.NewSource(1))
	for range 200 {
		if x := math.Float64frombits(r.Uint64()); x == x {
			list = append(list, x)
		}
	}
	return list
}

// sameBits tells whether two numbers are the same to the last bit, or both NaN.
func sameBits(a, b float64) bool {
	return math.Float64bits(a) == math.Float64bits(b) || a != a && b != b
}

// noise is n bytes, the same for the same r.
func noise(r *rand.Rand, n int) []byte {
	b := make([]byte, n)
	r.Read(b)
	return b
}

// lengthOf is a length as it is laid down.
func lengthOf(n int) []byte { return binary.LittleEndian.AppendUint16(nil, uint16(n)) }

// frameOf is the frame of a body as the chapter says it, of any length that two bytes tell.
func frameOf(body []byte) []byte {
	b := append([]byte{0x50, 0x64}, lengthOf(len(body))...)
	b = binary.LittleEndian.AppendUint32(b, crc32.ChecksumIEEE(append(bytes.Clone(b), body...)))
	return append(b, body...)
}

// wantFault fails, unless the In's fault is the one at that place, and the In is as one that is not right.
func wantFault(t *testing.T, i *In, place int, fault api.Errno) {
	t.Helper()
	for range 2 {
		at, e := i.Fault()
		if at != place || e != fault {
			t.Errorf("Fault: %d, %v, want %d, %v", at, e, place, fault)
		}
		if i.At() != place || i.End() != fault {
			t.Errorf("At %d, End %v, want %d, %v", i.At(), i.End(), place, fault)
		}
		wantZeros(t, i)
	}
}

// wantZeros fails, unless every take answers zero.
func wantZeros(t *testing.T, i *In) {
	t.Helper()
	if Take[uint8](i) != 0 || Take[int8](i) != 0 || Take[uint16](i) != 0 || Take[int16](i) != 0 ||
		Take[uint32](i) != 0 || Take[int32](i) != 0 || Take[uint64](i) != 0 || Take[int64](i) != 0 || Take[letter](i) != 0 ||
		math.Float64bits(i.Float()) != 0 || i.Text(1<<20) != "" || i.Count(1<<20) != 0 || i.Text(0) != "" || i.Count(-1) != 0 {
		t.Error("a take of an In that is not right answers more than zero")
	}
}

// wantRight fails, unless the In is right, at that place, with or without bytes left.
func wantRight(t *testing.T, i *In, place int, left bool) {
	t.Helper()
	end := api.OK
	if left {
		end = api.ErrLeft
	}
	for range 2 {
		at, e := i.Fault()
		if at != 0 || e != api.OK || i.At() != place || i.End() != end {
			t.Errorf("Fault %d, %v, At %d, End %v, want 0, OK, %d, %v", at, e, i.At(), i.End(), place, end)
		}
	}
}

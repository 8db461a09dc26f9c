package wide

import (
	"math/big"
	"math/rand"
	"testing"
)

const (
	least    = -1 << 63
	greatest = 1<<63 - 1
	all      = 1<<64 - 1
)

// power is 2^n.
func power(n uint) *big.Int { return new(big.Int).Lsh(big.NewInt(1), n) }

// toBig is the number by the definition of Int: Hi * 2^64 + Lo.
func toBig(a Int) *big.Int {
	v := new(big.Int).Lsh(big.NewInt(a.Hi), 64)
	return v.Add(v, new(big.Int).SetUint64(a.Lo))
}

// fromBig is toBig's way back, for a v that an Int holds.
func fromBig(v *big.Int) Int {
	lo := new(big.Int).Mod(v, power(64))
	return Int{new(big.Int).Rsh(v, 64).Int64(), lo.Uint64()}
}

// round is v modulo 2^128, as the one from -2^127 to 2^127 - 1.
func round(v *big.Int) *big.Int {
	w := new(big.Int).Mod(v, power(128))
	if w.Cmp(power(127)) >= 0 {
		w.Sub(w, power(128))
	}
	return w
}

// inRange tells whether v is from -2^127 to 2^127 - 1.
func inRange(v *big.Int) bool { return round(v).Cmp(v) == 0 }

// words are numbers of 64 bits: edges, and others that are the same in each run.
func words() []int64 {
	list := []int64{0, 1, -1, 2, -2, 3, 7, -7, 10, -10, 12, 18, 1 << 30, -1 << 30, 1<<31 - 1, 1 << 32, -1 << 32, 1<<53 - 1, 1 << 53, 1<<53 + 1, 1<<53 + 3, 1 << 62, greatest, greatest - 1, least, least + 1, 1e18, -1e18}
	r := rand.New(rand.NewSource(1))
	for range 40 {
		list = append(list, int64(r.Uint64())>>r.Intn(64))
	}
	return list
}

// numbers are Ints: every pair of edge words, and others that are the same in each run.
func numbers() []Int {
	his := []int64{0, 1, -1, 2, -2, 1 << 32, greatest, greatest - 1, least, least + 1, 1 << 52, -1 << 53}
	los := []uint64{0, 1, 2, 1 << 10, 1 << 11, 1<<11 + 1, 3 << 10, 3 << 11, 1 << 53, 1<<63 - 1, 1 << 63, 1<<63 + 1, all - 1, all}
	var list []Int
	for _, hi := range his {
		for _, lo := range los {
			list = append(list, Int{hi, lo})
		}
	}
	r := rand.New(rand.NewSource(2))
	for range 60 {
		list = append(list, Int{int64(r.Uint64()) >> r.Intn(64), r.Uint64() >> r.Intn(64)})
	}
	for _, v := range words() {
		list = append(list, Of(v), Unsigned(uint64(v)))
	}
	return list
}

// same fails, unless got is the number want.
func same(t *testing.T, got Int, want *big.Int, form string, args ...any) {
	t.Helper()
	if toBig(got).Cmp(want) != 0 {
		t.Errorf(form+": got %v, want %v", append(args, toBig(got), want)...)
	}
}

package table

import (
	"iter"
	"math/bits"
	"slices"

	"paddock/api"
)

// word is how many numbers a word of a set has a bit for.
const word = 64

// Bits is a set of the numbers from 0 up to a bound.
type Bits struct {
	made  bool     // by NewBits: one that it did not make is as none at all, which the bound can't tell, since NewBits makes some with the bound 0
	bound int      // the numbers are below it
	words []uint64 // number i has the bit i%word of the word i/word; the bits from the bound on are never set
}

// NewBits is an empty set for the numbers below n (P17.4).
func NewBits(n int) (*Bits, api.Errno) {
	if n < 0 || n > api.MaxBits {
		return nil, api.ErrArg
	}
	return &Bits{made: true, bound: n, words: make([]uint64, (n+word-1)/word)}, api.OK
}

// absent is whether there is no set to speak of.
func (b *Bits) absent() bool { return b == nil || !b.made }

// may is whether a number may be in the set.
func (b *Bits) may(i int) bool { return !b.absent() && i >= 0 && i < b.bound }

// mask has the one bit that a number has in its word.
func mask(i int) uint64 { return 1 << (i % word) }

// Add puts a number in (P17.4).
func (b *Bits) Add(i int) bool {
	if !b.may(i) || b.Has(i) {
		return false
	}
	b.words[i/word] |= mask(i)
	return true
}

// Del takes a number out (P17.4).
func (b *Bits) Del(i int) bool {
	if !b.Has(i) {
		return false
	}
	b.words[i/word] &^= mask(i)
	return true
}

// Has tells whether a number is in the set (P17.4).
func (b *Bits) Has(i int) bool { return b.may(i) && b.words[i/word]&mask(i) != 0 }

// Count is how many numbers are in the set (P17.4).
func (b *Bits) Count() int {
	count := 0
	if !b.absent() {
		for _, w := range b.words {
			count += bits.OnesCount64(w)
		}
	}
	return count
}

// first is the least number, not below from, whose bit is set when all bits of the words are changed by flip; -1, if there is none.
func first(words []uint64, from int, flip uint64) int {
	from = max(from, 0)
	wanted := ^uint64(0) << (from % word)
	for i := from / word; i < len(words); i++ {
		if w := (words[i] ^ flip) & wanted; w != 0 {
			return i*word + bits.TrailingZeros64(w)
		}
		wanted = ^uint64(0)
	}
	return -1
}

// Least is the least number in the set that is not below from (P17.4).
func (b *Bits) Least(from int) int {
	if b.absent() {
		return 0
	}
	return first(b.words, from, 0)
}

// Free is the least number that is not in the set, though it may be, and is not below from (P17.4).
func (b *Bits) Free(from int) int {
	if b.absent() {
		return 0
	}
	if i := first(b.words, from, ^uint64(0)); b.may(i) {
		return i
	}
	return -1
}

// change makes of each word, and of that of another set, another word.
func (b *Bits) change(c *Bits, other func(v, w uint64) uint64) api.Errno {
	switch {
	case b.absent() || c.absent():
		return api.ErrNil
	case b.bound != c.bound:
		return api.ErrArg
	}
	for i, w := range c.words {
		b.words[i] = other(b.words[i], w)
	}
	return api.OK
}

// Join puts all in that another set has (P17.5).
func (b *Bits) Join(c *Bits) api.Errno {
	return b.change(c, func(v, w uint64) uint64 { return v | w })
}

// Cut takes all out that another set has (P17.5).
func (b *Bits) Cut(c *Bits) api.Errno {
	return b.change(c, func(v, w uint64) uint64 { return v &^ w })
}

// Meet takes all out that another set has not (P17.5).
func (b *Bits) Meet(c *Bits) api.Errno {
	return b.change(c, func(v, w uint64) uint64 { return v & w })
}

// All goes through the numbers that are in the set now, rising (P17.5).
func (b *Bits) All() iter.Seq[int] {
	var now []uint64
	if !b.absent() {
		now = slices.Clone(b.words)
	}
	return func(yield func(int) bool) {
		for i := first(now, 0, 0); i >= 0; i = first(now, i+1, 0) {
			if !yield(i) {
				return
			}
		}
	}
}

package table

import (
	"fmt"
	"slices"
	"testing"

	"paddock/api"
)

// bounds are those of sets that are tried: no word, one, more, whole ones and others.
func bounds() []int { return []int{0, 1, 2, 63, 64, 65, 70, 127, 128, 129, 200} }

// edges are the numbers at which a set with a bound is asked.
func edges(n int) []int {
	list := []int{least, least + 1, -1 << 32, -65536, -65, -64, -63, -2, -1, 0, 1, 2, 62, 63, 64, 65, 126, 127, 128, 129}
	return append(list, n-65, n-64, n-1, n, n+1, n+63, n+64, 65535, 65536, 65537, 1<<32, 1<<32+1, greatest-1, greatest)
}

// setOf is a new set with a bound, in which these are.
func setOf(t *testing.T, n int, in ...int) *Bits {
	t.Helper()
	b, e := NewBits(n)
	if b == nil || e != api.OK {
		t.Fatalf("NewBits(%d): %v, %d", n, b, e)
	}
	for _, i := range in {
		wantTrue(t, fmt.Sprint("Add ", i), b.Add(i), true)
	}
	return b
}

// flags is a set by the chapter's words: of each number from 0 to one below the bound whether it is in it.
type flags []bool

func flagsOf(n int, in ...int) flags {
	f := make(flags, n)
	for _, i := range in {
		f[i] = true
	}
	return f
}

func (f flags) has(i int) bool { return i >= 0 && i < len(f) && f[i] }

// seek is the least number not below from that is in it, or is not; -1, if there is none.
func (f flags) seek(from int, in bool) int {
	for i := range f {
		if i >= from && f[i] == in {
			return i
		}
	}
	return -1
}

// numbers are those in it.
func (f flags) numbers() []int {
	var list []int
	for i := range f {
		if f[i] {
			list = append(list, i)
		}
	}
	return list
}

// wantSet fails, unless in a set there are just these, told in each way, at all edges and at the numbers themselves, and no bit is set that has no number.
func wantSet(t *testing.T, what string, b *Bits, f flags) {
	t.Helper()
	in := f.numbers()
	wantNumbers(t, what+": All", b.All(), in...)
	wantCount(t, what+": Count", b.Count(), len(in))
	ask := edges(len(f))
	if len(f) <= 200 {
		ask = append(ask, span(0, len(f)+2)...)
	}
	for _, i := range ask {
		if got, want := b.Has(i), f.has(i); got != want {
			t.Errorf("%s: Has(%d): %v, want %v", what, i, got, want)
		}
		if got, want := b.Least(i), f.seek(i, true); got != want {
			t.Errorf("%s: Least(%d): %d, want %d", what, i, got, want)
		}
		if got, want := b.Free(i), f.seek(i, false); got != want {
			t.Errorf("%s: Free(%d): %d, want %d", what, i, got, want)
		}
	}
	for i := len(f); i < 64*len(b.words); i++ {
		if b.words[i/64]>>(i%64)&1 != 0 {
			t.Errorf("%s: the bit of %d is set", what, i)
		}
	}
}

// kindsOfSets are sets with a bound: none in it, all, one only, all but one, and others.
func kindsOfSets(n int) map[string][]int {
	sets := map[string][]int{"empty": nil, "full": span(0, n)}
	for _, i := range []int{0, 1, 62, 63, 64, 65, 127, 128, n - 2, n - 1} {
		if i >= 0 && i < n {
			sets[fmt.Sprint("only ", i)] = []int{i}
			sets[fmt.Sprint("all but ", i)] = slices.Concat(span(0, i), span(i+1, n))
		}
	}
	var thirds []int
	for i := 1; i < n; i += 3 {
		thirds = append(thirds, i)
	}
	sets["thirds"] = thirds
	sets["the upper half"] = span(n/2, n)
	return sets
}

// P17.4: which bounds there may be.
func TestNewBits(t *testing.T) {
	if api.MaxBits != 65536 {
		t.Fatalf("MaxBits: %d", api.MaxBits)
	}
	for _, n := range []int{least, -65536, -64, -2, -1, 65537, 65538, 1 << 31, 1<<32 + 1, greatest} {
		if b, e := NewBits(n); b != nil || e != api.ErrArg {
			t.Errorf("NewBits(%d): %v, %d, want ErrArg", n, b, e)
		}
	}
	for _, n := range append(bounds(), 65535, 65536) {
		wantSet(t, fmt.Sprint("new, to ", n), setOf(t, n), flagsOf(n))
	}
}

// P17.4, P0.1: sets that are not there, and those that NewBits did not make, answer nothing in every call, and take nothing, as the set and as the other set.
func TestAbsentSets(t *testing.T) {
	refused, _ := NewBits(-1)
	absent := map[string]*Bits{"nil": nil, "refused": refused, "zero": {}, "new": new(Bits)}
	for what, b := range absent {
		for range 2 {
			for _, i := range edges(0) {
				wantTrue(t, what+": Add", b.Add(i), false)
				wantTrue(t, what+": Del", b.Del(i), false)
				wantTrue(t, what+": Has", b.Has(i), false)
				wantCount(t, what+": Least", b.Least(i), 0)
				wantCount(t, what+": Free", b.Free(i), 0)
			}
			wantCount(t, what+": Count", b.Count(), 0)
			wantNumbers(t, what+": All", b.All())
			for other, c := range absent {
				wantErr(t, what+": Join "+other, b.Join(c), api.ErrNil)
				wantErr(t, what+": Cut "+other, b.Cut(c), api.ErrNil)
				wantErr(t, what+": Meet "+other, b.Meet(c), api.ErrNil)
			}
			for _, n := range []int{0, 1, 70} {
				c := setOf(t, n, span(0, n)...)
				for _, e := range []api.Errno{b.Join(c), b.Cut(c), b.Meet(c), c.Join(b), c.Cut(b), c.Meet(b)} {
					wantErr(t, fmt.Sprint(what, " with one to ", n), e, api.ErrNil)
				}
				wantSet(t, "the other", c, flagsOf(n, span(0, n)...))
			}
		}
	}
}

// P17.4: every number, and every edge, put in and taken out, of sets of each kind.
func TestAddDel(t *testing.T) {
	for _, n := range bounds() {
		for kind, in := range kindsOfSets(n) {
			b, f := setOf(t, n, in...), flagsOf(n, in...)
			what := fmt.Sprintf("to %d, %s", n, kind)
			wantSet(t, what, b, f)
			for _, i := range edges(n) {
				what := fmt.Sprintf("%s, %d", what, i)
				may, was := i >= 0 && i < n, f.has(i)
				wantTrue(t, what+": Add", b.Add(i), may && !was)
				wantTrue(t, what+": Add again", b.Add(i), false)
				wantTrue(t, what+": Has", b.Has(i), may)
				if may {
					f[i] = true
				}
				wantSet(t, what+", put in", b, f)
				wantTrue(t, what+": Del", b.Del(i), may)
				wantTrue(t, what+": Del again", b.Del(i), false)
				wantTrue(t, what+": Has no more", b.Has(i), false)
				if may {
					f[i] = false
				}
				wantSet(t, what+", taken out", b, f)
				if was {
					wantTrue(t, what+": Add once more", b.Add(i), true)
					f[i] = true
				}
				if t.Failed() {
					return
				}
			}
		}
	}
}

// P17.4: a set is filled number by number, from either end, and emptied.
func TestFilledAndEmptied(t *testing.T) {
	for _, n := range []int{1, 64, 70, 130} {
		for what, step := range map[string]int{"rising": 1, "falling": n - 1} {
			b, f := setOf(t, n), flagsOf(n)
			for k := range n {
				i := (k*step + step - 1) % n
				wantTrue(t, what+": Add", b.Add(i), true)
				f[i] = true
				wantSet(t, fmt.Sprintf("%s, to %d, put in %d", what, n, i), b, f)
			}
			wantCount(t, what+": Count of all", b.Count(), n)
			for k := range n {
				i := (k*step + step - 1) % n
				wantTrue(t, what+": Del", b.Del(i), true)
				f[i] = false
				wantSet(t, fmt.Sprintf("%s, to %d, taken out %d", what, n, i), b, f)
			}
			if t.Failed() {
				return
			}
		}
	}
}

// P17.4, P17.5: a set with the greatest bound.
func TestMaxBits(t *testing.T) {
	const n = 65536
	b := setOf(t, n)
	for _, i := range []int{65535, 0, 40000, 63, 64} {
		wantTrue(t, "Add", b.Add(i), true)
	}
	wantTrue(t, "Add of the bound", b.Add(65536), false)
	wantSet(t, "five", b, flagsOf(n, 0, 63, 64, 40000, 65535))
	wantCount(t, "Least far off", b.Least(65), 40000)
	wantCount(t, "Least at the end", b.Least(40001), 65535)
	wantCount(t, "Free behind the last", b.Free(65535), -1)
	c := setOf(t, n, span(0, n)...)
	wantSet(t, "all", c, flagsOf(n, span(0, n)...))
	wantErr(t, "Cut", c.Cut(b), api.OK)
	wantCount(t, "Count of the rest", c.Count(), n-5)
	wantCount(t, "Free far off", c.Free(65), 40000)
	wantErr(t, "Join", c.Join(b), api.OK)
	wantCount(t, "Free of a full one", c.Free(-1), -1)
	wantErr(t, "Meet", c.Meet(b), api.OK)
	wantSet(t, "five again", c, flagsOf(n, 0, 63, 64, 40000, 65535))
}

// doing is Join, Cut or Meet, and what it makes of a number, by whether it was in the one and in the other.
type doing struct {
	what string
	do   func(b, c *Bits) api.Errno
	in   func(b, c bool) bool
}

func doings() []doing {
	return []doing{
		{"Join", (*Bits).Join, func(b, c bool) bool { return b || c }},
		{"Cut", (*Bits).Cut, func(b, c bool) bool { return b && !c }},
		{"Meet", (*Bits).Meet, func(b, c bool) bool { return b && c }},
	}
}

// with is what a doing makes of two sets.
func (d doing) with(f, g flags) flags {
	made := make(flags, len(f))
	for i := range f {
		made[i] = d.in(f[i], g[i])
	}
	return made
}

// P17.5: sets of each kind with sets of each kind, themselves among them; the other stays as it is.
func TestJoinCutMeet(t *testing.T) {
	for _, n := range bounds() {
		for kind, in := range kindsOfSets(n) {
			for other, out := range kindsOfSets(n) {
				for _, d := range doings() {
					what := fmt.Sprintf("to %d: %s %s %s", n, kind, d.what, other)
					b, c, f, g := setOf(t, n, in...), setOf(t, n, out...), flagsOf(n, in...), flagsOf(n, out...)
					wantErr(t, what, d.do(b, c), api.OK)
					if !slices.Equal(slices.Collect(b.All()), d.with(f, g).numbers()) || !slices.Equal(slices.Collect(c.All()), out) {
						t.Errorf("%s: %v, %v", what, slices.Collect(b.All()), slices.Collect(c.All()))
					}
				}
			}
			for _, d := range doings() {
				what := fmt.Sprintf("to %d: %s %s itself", n, kind, d.what)
				b, f := setOf(t, n, in...), flagsOf(n, in...)
				wantErr(t, what, d.do(b, b), api.OK)
				wantSet(t, what, b, d.with(f, f))
			}
		}
	}
}

// P17.5: sets of unlike bounds, of as many words among them, change nothing.
func TestUnlikeBounds(t *testing.T) {
	for _, n := range bounds() {
		for _, m := range append(bounds(), n+1, n+64, 65536) {
			if n == m {
				continue
			}
			b, c := setOf(t, n, span(n/2, n)...), setOf(t, m, span(0, m/2)...)
			for _, d := range doings() {
				what := fmt.Sprintf("%s of one to %d with one to %d", d.what, n, m)
				wantErr(t, what, d.do(b, c), api.ErrArg)
				wantErr(t, what+", turned round", d.do(c, b), api.ErrArg)
			}
			wantNumbers(t, "the one", b.All(), span(n/2, n)...)
			wantNumbers(t, "the other", c.All(), span(0, m/2)...)
		}
	}
}

// P17.5: what is done to one of two sets behind Join, Cut or Meet changes nothing of the other one.
func TestSetsShareNothing(t *testing.T) {
	for _, n := range []int{1, 64, 70, 130} {
		for _, d := range doings() {
			b, c, f, g := setOf(t, n), setOf(t, n, 0), flagsOf(n), flagsOf(n, 0)
			wantErr(t, d.what, d.do(b, c), api.OK)
			f = d.with(f, g)
			for i := range n {
				b.Add(i)
				f[i] = true
				c.Del(i)
				g[i] = false
				wantSet(t, d.what+": the one", b, f)
				wantSet(t, d.what+": the other", c, g)
			}
		}
	}
}

// fewNumbers are six neighbours, the bits of whose places tell a set: about the beginning of a set, and about the edges of its words.
func fewNumbers(from, members int) []int {
	var list []int
	for i := range 6 {
		if members>>i&1 == 1 {
			list = append(list, from+i)
		}
	}
	return list
}

// P17.5, P17.7: every set of six neighbours with every other, how many are in what they become, and what Cut and then Meet leave.
func TestEverySetWithEverySet(t *testing.T) {
	for _, from := range []int{0, 61, 125} {
		for _, n := range []int{from + 6, from + 9} {
			for one := range 64 {
				for two := range 64 {
					in, out := fewNumbers(from, one), fewNumbers(from, two)
					f, g := flagsOf(n, in...), flagsOf(n, out...)
					had := setOf(t, n, in...)
					wantErr(t, "Meet", had.Meet(setOf(t, n, out...)), api.OK)
					for _, d := range doings() {
						b, c := setOf(t, n, in...), setOf(t, n, out...)
						wantErr(t, d.what, d.do(b, c), api.OK)
						wantNumbers(t, fmt.Sprintf("%v %s %v", in, d.what, out), b.All(), d.with(f, g).numbers()...)
						wantNumbers(t, "the other", c.All(), out...)
						if d.what == "Join" {
							wantCount(t, "Count of a Join", b.Count(), len(in)+c.Count()-had.Count())
						}
						b.Cut(c)
						b.Meet(c)
						wantCount(t, "Cut and then Meet", b.Count(), 0)
					}
					if t.Failed() {
						return
					}
				}
			}
		}
	}
}

// P17.7: a number is Least of itself just if it is in the set, and Free of itself just if it is not, and may be.
func TestLeastAndFreeOfItself(t *testing.T) {
	for _, n := range append(bounds(), 65536) {
		for kind, in := range kindsOfSets(n) {
			b, f := setOf(t, n, in...), flagsOf(n, in...)
			for _, i := range append(span(-3, min(n, 200)+3), n-1, n, n+1) {
				what := fmt.Sprintf("to %d, %s, %d", n, kind, i)
				wantTrue(t, what+": Least", i >= 0 && b.Least(i) == i, f.has(i))
				wantTrue(t, what+": Free", i >= 0 && b.Free(i) == i, i >= 0 && i < n && !f.has(i))
			}
		}
	}
}

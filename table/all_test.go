package table

import (
	"fmt"
	"math/rand"
	"slices"
	"testing"
)

// six are what is in the tables that are gone over.
func six() []pair[string] { return under(0, 3, 4, 9, 20, topmost) }

// P17.3: an iterator tells all, by number rising, each time that it is gone over, and going over it changes nothing.
func TestAll(t *testing.T) {
	for count := range 7 {
		what := fmt.Sprint(count, " in it")
		x := made(t, 6, six()[:count]...)
		all := x.All()
		for range 3 {
			wantTold(t, what, all, six()[:count]...)
		}
		wantTable(t, what, x, 6, six()[:count]...)
	}
}

// P17.3: an iterator may be left at each place, asks for no more then, and begins anew when it is gone over again.
func TestAllLeftEarly(t *testing.T) {
	x := made(t, 6, six()...)
	all := x.All()
	for stop := range six() {
		var list []pair[string]
		for id, v := range all {
			list = append(list, pair[string]{id, v})
			if len(list) == stop+1 {
				break
			}
		}
		if !slices.Equal(list, six()[:stop+1]) {
			t.Errorf("left at %d: %v", stop, list)
		}
		asked := 0
		all(func(uint32, string) bool {
			asked++
			return asked <= stop
		})
		wantCount(t, "asked again when no more was wanted", asked, stop+1)
	}
	wantTold(t, "gone over again", all, six()...)
	wantTable(t, "behind all that", x, 6, six()...)
}

// changes are ways of changing what is in a table, each by one call or more.
func changes() map[string]func(x *Table[string]) {
	return map[string]func(x *Table[string]){
		"Put in the midst":      func(x *Table[string]) { x.Put(5, "new") },
		"Put ahead of the last": func(x *Table[string]) { x.Put(topmost-1, "new") },
		"Put another value":     func(x *Table[string]) { x.Put(3, "other") },
		"Put other values":      putOthers,
		"Del the first":         func(x *Table[string]) { x.Del(0) },
		"Del in the midst":      func(x *Table[string]) { x.Del(4); x.Del(9) },
		"Del the last":          func(x *Table[string]) { x.Del(topmost) },
		"Del all":               delAll,
		"one for another":       func(x *Table[string]) { x.Del(4); x.Put(5, "new") },
		"out and in again":      func(x *Table[string]) { x.Del(4); x.Put(4, "new") },
		"all others":            func(x *Table[string]) { delAll(x); x.Put(1, "new"); x.Put(10, "new") },
	}
}

func putOthers(x *Table[string]) {
	for _, q := range six() {
		x.Put(q.id, "other")
	}
}

func delAll(x *Table[string]) {
	for _, q := range six() {
		x.Del(q.id)
	}
}

// P17.3: an iterator tells what there was when it was asked for, whether or not it was gone over ahead of a change.
func TestAllChangedSince(t *testing.T) {
	for what, change := range changes() {
		x := made(t, 12, six()...)
		fresh, used := x.All(), x.All()
		wantTold(t, what+": ahead of it", used, six()...)
		change(x)
		now := told(x.All())
		if slices.Equal(now, six()) {
			t.Errorf("%s: has changed nothing", what)
		}
		wantTold(t, what+": gone over for the first time", fresh, six()...)
		wantTold(t, what+": gone over again", used, six()...)
		wantTable(t, what, x, 12, now...)
	}
}

// P17.3: an iterator that was asked for when there was nothing goes on telling nothing.
func TestAllOfNone(t *testing.T) {
	x := made[string](t, 12)
	all := x.All()
	put(t, x, six()...)
	wantTold(t, "asked for when there was none", all)
	full := x.All()
	delAll(x)
	wantTold(t, "behind all taken out", x.All())
	wantTold(t, "asked for ahead of that", full, six()...)
}

// P17.3: going on while the table is changed, at each place.
func TestAllChangedMeanwhile(t *testing.T) {
	for what, change := range changes() {
		for when := range six() {
			x := made(t, 12, six()...)
			all := x.All()
			var list, now []pair[string]
			for id, v := range all {
				list = append(list, pair[string]{id, v})
				if len(list) == when+1 {
					change(x)
					now = told(x.All())
					wantTold(t, what+": within", all, six()...)
				}
			}
			if !slices.Equal(list, six()) {
				t.Errorf("%s at %d: %v", what, when, list)
			}
			wantTold(t, what+": behind it", all, six()...)
			wantTable(t, what, x, 12, now...)
		}
	}
}

// P17.3: all that is told is taken out, and another put in, while it is told.
func TestAllWhileItEmptiesAndFills(t *testing.T) {
	x := made(t, 12, under(10, 20, 30)...)
	for id, v := range x.All() {
		got, ok := x.Del(id)
		wantValue(t, "Del", got, ok, v, true)
		put(t, x, under(id+1, id+2)...)
	}
	wantTable(t, "others", x, 12, under(11, 12, 21, 22, 31, 32)...)
}

// P17.3: iterators beside one another, one within the other, of one table and of two.
func TestAllWithinAll(t *testing.T) {
	x, y := made(t, 2, under(1, 2)...), made(t, 2, under(3, 4)...)
	all, others := x.All(), y.All()
	var list []uint32
	for a := range all {
		for b := range all {
			for c := range others {
				list = append(list, 100*a+10*b+c)
			}
		}
	}
	if want := []uint32{113, 114, 123, 124, 213, 214, 223, 224}; !slices.Equal(list, want) {
		t.Errorf("%v, want %v", list, want)
	}
}

// steps are what a walk by Next tells; behind each number that it tells, what is to be done then is done.
func steps(t *testing.T, x *Table[string], meanwhile func(told int)) []pair[string] {
	t.Helper()
	var list []pair[string]
	for id, v, ok := x.Next(77, true); ok && len(list) < 1000; id, v, ok = x.Next(id, false) {
		list = append(list, pair[string]{id, v})
		meanwhile(len(list))
	}
	return list
}

// P17.6: going on by Next tells what All tells, as long as nothing is done meanwhile.
func TestNextTellsWhatAllTells(t *testing.T) {
	random := rand.New(rand.NewSource(3))
	for many := range 60 {
		x := made[string](t, 100)
		for range many {
			put(t, x, under(random.Uint32()>>random.Intn(32))...)
		}
		if got := steps(t, x, func(int) {}); !slices.Equal(got, told(x.All())) {
			t.Errorf("%v, want %v", got, told(x.All()))
		}
	}
	x := made(t, 6, six()...)
	if got := steps(t, x, func(int) {}); !slices.Equal(got, six()) {
		t.Errorf("%v", got)
	}
	if got := steps(t, made[string](t, 1), func(int) {}); got != nil {
		t.Errorf("of none: %v", got)
	}
}

// wantWalk fails, unless a walk tells rising numbers, and each of those that were there all the while.
func wantWalk(t *testing.T, what string, walk []pair[string], stayed map[uint32]bool) {
	t.Helper()
	for i, q := range walk {
		if i > 0 && q.id <= walk[i-1].id {
			t.Errorf("%s: %d behind %d", what, q.id, walk[i-1].id)
		}
		delete(stayed, q.id)
	}
	if len(stayed) > 0 {
		t.Errorf("%s: not told: %v of %v", what, stayed, walk)
	}
}

// P17.6: whatever is done meanwhile, at each place, no number is told twice, and each that stays is told.
func TestNextChangedMeanwhile(t *testing.T) {
	for what, change := range changes() {
		for when := range six() {
			x := made(t, 12, six()...)
			walk := steps(t, x, func(told int) {
				if told == when+1 {
					change(x)
				}
			})
			stayed := map[uint32]bool{}
			for _, q := range six() {
				if _, ok := x.Get(q.id); ok {
					stayed[q.id] = true
				}
			}
			wantWalk(t, fmt.Sprintf("%s at %d", what, when), walk, stayed)
		}
	}
}

// P17.6: the same over any changes, behind each step.
func TestNextAnyChanges(t *testing.T) {
	random := rand.New(rand.NewSource(8))
	for n := range 500 {
		x := made[string](t, 64)
		stayed := map[uint32]bool{}
		for range 20 {
			id := random.Uint32() % 40
			put(t, x, under(id)...)
			stayed[id] = true
		}
		walk := steps(t, x, func(int) {
			for range random.Intn(4) {
				put(t, x, under(random.Uint32()%40)...)
				id := random.Uint32() % 40
				x.Del(id)
				delete(stayed, id)
			}
		})
		wantWalk(t, fmt.Sprint("walk ", n), walk, stayed)
	}
}

// someNumbers are what is in the sets that are gone over, which have a bound of 130.
func someNumbers() []int { return []int{0, 2, 63, 64, 100, 128, 129} }

// P17.5: an iterator tells all numbers, rising, each time that it is gone over, of sets of each kind.
func TestAllOfSets(t *testing.T) {
	for _, n := range bounds() {
		for kind, in := range kindsOfSets(n) {
			what := fmt.Sprintf("to %d, %s", n, kind)
			b := setOf(t, n, in...)
			all := b.All()
			for range 3 {
				wantNumbers(t, what, all, in...)
			}
			wantSet(t, what, b, flagsOf(n, in...))
		}
	}
}

// P17.5: an iterator of a set may be left at each place, asks for no more then, and begins anew.
func TestAllOfSetsLeftEarly(t *testing.T) {
	b := setOf(t, 130, someNumbers()...)
	all := b.All()
	for stop := range someNumbers() {
		var list []int
		for i := range all {
			list = append(list, i)
			if len(list) == stop+1 {
				break
			}
		}
		if !slices.Equal(list, someNumbers()[:stop+1]) {
			t.Errorf("left at %d: %v", stop, list)
		}
		asked := 0
		all(func(int) bool {
			asked++
			return asked <= stop
		})
		wantCount(t, "asked again when no more was wanted", asked, stop+1)
	}
	wantNumbers(t, "gone over again", all, someNumbers()...)
	wantSet(t, "behind all that", b, flagsOf(130, someNumbers()...))
}

// changesOfSets are ways of changing what is in a set.
func changesOfSets(t *testing.T) map[string]func(b *Bits) {
	return map[string]func(b *Bits){
		"Add ahead":        func(b *Bits) { b.Add(1) },
		"Add in the midst": func(b *Bits) { b.Add(65); b.Add(127) },
		"Del the first":    func(b *Bits) { b.Del(0) },
		"Del in the midst": func(b *Bits) { b.Del(63); b.Del(100) },
		"Del the last":     func(b *Bits) { b.Del(129) },
		"Join":             func(b *Bits) { b.Join(setOf(t, 130, span(0, 130)...)) },
		"Cut":              func(b *Bits) { b.Cut(setOf(t, 130, 2, 64, 65, 129)) },
		"Cut itself":       func(b *Bits) { b.Cut(b) },
		"Meet":             func(b *Bits) { b.Meet(setOf(t, 130, 3, 64, 129)) },
	}
}

// P17.5: an iterator of a set tells what was in it when it was asked for, whatever is done since, and meanwhile, at each place.
func TestAllOfSetsChanged(t *testing.T) {
	for what, change := range changesOfSets(t) {
		b := setOf(t, 130, someNumbers()...)
		fresh, used := b.All(), b.All()
		wantNumbers(t, what+": ahead of it", used, someNumbers()...)
		change(b)
		now := slices.Collect(b.All())
		if slices.Equal(now, someNumbers()) {
			t.Errorf("%s: has changed nothing", what)
		}
		wantNumbers(t, what+": gone over for the first time", fresh, someNumbers()...)
		wantNumbers(t, what+": gone over again", used, someNumbers()...)
		wantSet(t, what, b, flagsOf(130, now...))
		for when := range someNumbers() {
			b := setOf(t, 130, someNumbers()...)
			all := b.All()
			var list []int
			for i := range all {
				list = append(list, i)
				if len(list) == when+1 {
					change(b)
					wantNumbers(t, what+": within", all, someNumbers()...)
				}
			}
			if !slices.Equal(list, someNumbers()) {
				t.Errorf("%s at %d: %v", what, when, list)
			}
			wantNumbers(t, what+": behind it", all, someNumbers()...)
			wantSet(t, what, b, flagsOf(130, now...))
		}
	}
}

// P17.5: an iterator that was asked for when the set was empty goes on telling nothing; those of two sets beside one another.
func TestAllOfSetsBesideOneAnother(t *testing.T) {
	b, c := setOf(t, 70), setOf(t, 70, 2, 69)
	none, two := b.All(), c.All()
	b.Join(c)
	c.Cut(c)
	wantNumbers(t, "asked for when there was none", none)
	wantNumbers(t, "asked for when there were two", two, 2, 69)
	var list []int
	for i := range two {
		for j := range b.All() {
			list = append(list, 100*i+j)
		}
	}
	if want := []int{202, 269, 6902, 6969}; !slices.Equal(list, want) {
		t.Errorf("%v, want %v", list, want)
	}
}

package track

import (
	"fmt"
	"slices"
	"testing"

	"paddock/api"
)

// filled is a book with room for more, with five objects that are in some of four fences.
func filled(t *testing.T) (*Book, *plain) {
	t.Helper()
	b, p := made(t, 8, 6, adding(7), adding(2), adding(topmost), adding(0))
	for i, id := range []uint32{9, 0, topmost, 4, 3} {
		o := api.Object{Id: id, Number: id + 1, Time: uint32(i), Place: at(int32(i), -1), Speed: float64(i) / 4}
		o.In = []uint32{0, 2, 7, topmost}[i%3 : 4-i/2]
		both(t, "Lay", b, p, laying(o))
	}
	return b, p
}

// changes are ways of changing what is in such a book, each by one call or more.
func changes() map[string][]call {
	return map[string][]call{
		"Move one":                 {moving(3, 77, 88, at(99, 99))},
		"Move the first":           {moving(0, 77, 88, at(99, 99))},
		"Move another":             {moving(5, 77, 88, at(99, 99))},
		"Move all":                 {moving(0, 7, 8, at(9, 9)), moving(3, 7, 8, at(9, 9)), moving(4, 7, 8, at(9, 9)), moving(9, 7, 8, at(9, 9)), moving(topmost, 7, 8, at(9, 9))},
		"Lay another":              {laying(api.Object{Id: 1, In: []uint32{0, 7}}), laying(api.Object{Id: topmost - 1})},
		"Forget the first":         {forgetting(0)},
		"Forget in the midst":      {forgetting(4)},
		"Forget the last":          {forgetting(topmost)},
		"Forget all":               {forgetting(0), forgetting(3), forgetting(4), forgetting(9), forgetting(topmost)},
		"out and in again":         {forgetting(4), moving(4, 1, 1, at(1, 1))},
		"one for another":          {forgetting(4), moving(5, 1, 1, at(1, 1))},
		"Enter":                    {entering(0, 0), entering(3, 7), entering(9, 7), entering(4, 2), entering(topmost, 2), entering(9, topmost), entering(3, topmost)},
		"Leave":                    {leaving(0, 7), leaving(3, 2), leaving(4, 0), leaving(9, 0), leaving(topmost, 7)},
		"DropFence":                {dropping(7)},
		"DropFence of all":         {dropping(0), dropping(2), dropping(7), dropping(topmost)},
		"a fence for another":      {dropping(7), adding(8), entering(0, 8), entering(3, 8)},
		"a fence out and in again": {dropping(2), adding(2)},
	}
}

// change makes calls to a book and says them by the words.
func change(t *testing.T, what string, b *Book, p *plain, list []call) {
	t.Helper()
	for _, c := range list {
		both(t, what, b, p, c)
	}
}

// P18.7: an iterator tells all objects, by number, each time that it is gone over, and going over it changes nothing.
func TestAll(t *testing.T) {
	b, p := filled(t)
	all := b.All()
	for range 3 {
		wantTold(t, "All", all, p.list...)
	}
	wantBook(t, "behind it", b, p)
	var ids []uint32
	for o := range all {
		ids = append(ids, o.Id)
	}
	wantNumbers(t, "by number", ids, 0, 3, 4, 9, topmost)
}

// P18.7: an iterator may be left at each place, asks for no more then, and begins anew when it is gone over again.
func TestAllLeftEarly(t *testing.T) {
	b, p := filled(t)
	all := b.All()
	for stop := range p.list {
		var list []api.Object
		for o := range all {
			list = append(list, o)
			if len(list) == stop+1 {
				break
			}
		}
		if !sameObjects(list, p.list[:stop+1]) {
			t.Errorf("left at %d: %v", stop, list)
		}
		asked := 0
		all(func(api.Object) bool {
			asked++
			return asked <= stop
		})
		if asked != stop+1 {
			t.Errorf("asked %d times, want %d", asked, stop+1)
		}
	}
	wantTold(t, "gone over again", all, p.list...)
	wantBook(t, "behind all that", b, p)
}

// P18.7: an iterator tells the objects as they were when it was asked for, whether or not it was gone over ahead of a change.
func TestAllChangedSince(t *testing.T) {
	for what, list := range changes() {
		b, p := filled(t)
		then := copied(p.list)
		fresh, used := b.All(), b.All()
		wantTold(t, what+": ahead of it", used, then...)
		change(t, what, b, p, list)
		if sameObjects(p.list, then) {
			t.Errorf("%s: has changed nothing", what)
		}
		wantTold(t, what+": gone over for the first time", fresh, then...)
		wantTold(t, what+": gone over again", used, then...)
		wantBook(t, what, b, p)
	}
}

// P18.7: going on while the book is changed, at each place.
func TestAllChangedMeanwhile(t *testing.T) {
	for what, doing := range changes() {
		for when := range 5 {
			b, p := filled(t)
			then := copied(p.list)
			all := b.All()
			var list []api.Object
			for o := range all {
				list = append(list, o)
				if len(list) == when+1 {
					change(t, what, b, p, doing)
					wantTold(t, what+": within", all, then...)
				}
			}
			if !sameObjects(list, then) {
				t.Errorf("%s at %d: %v", what, when, list)
			}
			wantTold(t, what+": behind it", all, then...)
			wantBook(t, what, b, p)
		}
	}
}

// P18.7: an iterator that was asked for when there was nothing goes on telling nothing.
func TestAllOfNone(t *testing.T) {
	b, p := made(t, 2, 1)
	all := b.All()
	change(t, "filled", b, p, []call{adding(1), moving(1, 1, 1, at(1, 1)), entering(1, 1)})
	wantTold(t, "asked for when there was none", all)
	then := copied(p.list)
	one := b.All()
	change(t, "emptied", b, p, []call{forgetting(1)})
	wantTold(t, "of none again", b.All())
	wantTold(t, "asked for ahead of that", one, then...)
}

// P18.7: all that is told is forgotten, and others taken in, while it is told.
func TestAllWhileItEmptiesAndFills(t *testing.T) {
	b, p := filled(t)
	then := copied(p.list)
	var list []api.Object
	for o := range b.All() {
		list = append(list, o)
		change(t, "meanwhile", b, p, []call{forgetting(o.Id), moving(o.Id+100, 1, 1, o.Place), dropping(7), adding(7), entering(o.Id+100, 7)})
	}
	if !sameObjects(list, then) {
		t.Errorf("told %v, want %v", list, then)
	}
	wantBook(t, "others", b, p)
}

// P18.7: iterators beside one another, one within the other, of one book and of two.
func TestAllWithinAll(t *testing.T) {
	b, _ := made(t, 2, 1, moving(1, 0, 0, at(0, 0)), moving(2, 0, 0, at(0, 0)))
	c, _ := made(t, 2, 1, moving(3, 0, 0, at(0, 0)), moving(4, 0, 0, at(0, 0)))
	all, others := b.All(), c.All()
	var list []uint32
	for x := range all {
		for y := range all {
			for z := range others {
				list = append(list, 100*x.Id+10*y.Id+z.Id)
			}
		}
	}
	if want := []uint32{113, 114, 123, 124, 213, 214, 223, 224}; !slices.Equal(list, want) {
		t.Errorf("%v, want %v", list, want)
	}
}

// P18.7, P18.9: what All tells, laid into another book whose fences came in another order, makes one that says the same, and goes on alike.
func TestAllLaidAgain(t *testing.T) {
	for what, list := range changes() {
		b, p := filled(t)
		change(t, what, b, p, list)
		c, _ := made(t, 8, 6)
		for _, fence := range slices.Backward(p.fenced) {
			wantErr(t, what+": AddFence", c.AddFence(fence), api.OK)
		}
		for o := range b.All() {
			wantErr(t, what+": Lay", c.Lay(o), api.OK)
		}
		wantBook(t, what+": the one", b, p)
		wantBook(t, what+": the other", c, p)
		for more, list := range changes() {
			what := fmt.Sprint(what, ", then ", more)
			for _, x := range list {
				if one, other := done(b, x), both(t, what, c, p, x); one != other {
					t.Errorf("%s: %v: %v and %v", what, x, one, other)
				}
			}
		}
		wantBook(t, what+": the one at the end", b, p)
		wantBook(t, what+": the other at the end", c, p)
	}
}

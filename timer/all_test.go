package timer

import (
	"fmt"
	"slices"
	"testing"

	"paddock/api"
)

// P16.5: an iterator tells all, each time that it is gone over, and going over it changes nothing.
func TestAll(t *testing.T) {
	for count := range 10 {
		want := nine()[:count]
		d := made(t, 9, want...)
		all := d.All()
		for range 3 {
			wantTold(t, fmt.Sprint(count, " stand"), all, want...)
		}
		wantStand(t, fmt.Sprint(count, " stand"), d, want...)
	}
}

// P16.5: an iterator may be left at each place, asks for no more then, and begins anew when it is gone over again.
func TestAllLeftEarly(t *testing.T) {
	want := nine()
	d := made(t, 9, want...)
	all := d.All()
	for stop := range want {
		var list []api.Due
		for x := range all {
			list = append(list, x)
			if len(list) == stop+1 {
				break
			}
		}
		if !slices.Equal(list, want[:stop+1]) {
			t.Errorf("left at %d: %v", stop, list)
		}
		asked := 0
		all(func(api.Due) bool {
			asked++
			return asked <= stop
		})
		wantCount(t, "asked again when no more was wanted", asked, stop+1)
	}
	wantTold(t, "gone over again", all, want...)
	wantStand(t, "behind all that", d, want...)
}

// changes are ways of changing what stands, each by one call or more.
func changes() map[string]func(d *Dues) {
	return map[string]func(d *Dues){
		"Set ahead of all":  func(d *Dues) { d.Set(due(0, 0, 1)) },
		"Set in the midst":  func(d *Dues) { d.Set(due(2, 3, 5)) },
		"Set behind all":    func(d *Dues) { d.Set(due(topmost, 9, 9)) },
		"Cut the first":     func(d *Dues) { d.Cut(5, 5) },
		"Cut in the midst":  func(d *Dues) { d.Cut(3, 2) },
		"Cut the last":      func(d *Dues) { d.Cut(0, 0) },
		"CutObject":         func(d *Dues) { d.CutObject(3) },
		"CutFence":          func(d *Dues) { d.CutFence(2) },
		"Take":              func(d *Dues) { d.Take(0) },
		"Take all":          takeAll,
		"one for another":   func(d *Dues) { d.Cut(3, 1); d.Set(due(9, 3, 1)) },
		"all others at all": func(d *Dues) { takeAll(d); d.Set(due(5, 6, 7)); d.Set(due(4, 6, 8)) },
	}
}

func takeAll(d *Dues) {
	for _, ok := d.Take(topmost); ok; _, ok = d.Take(topmost) {
	}
}

// P16.5: an iterator tells what stands when going over it begins, not what stood when it was asked for.
func TestAllChangedSince(t *testing.T) {
	for what, change := range changes() {
		d := made(t, 12, nine()...)
		fresh, used := d.All(), d.All()
		wantTold(t, what+": ahead of it", used, nine()...)
		change(d)
		now := slices.Collect(d.All())
		if slices.Equal(now, nine()) {
			t.Errorf("%s: has changed nothing", what)
		}
		wantTold(t, what+": gone over for the first time", fresh, now...)
		wantTold(t, what+": gone over again", used, now...)
		wantStand(t, what, d, now...)
	}
}

// P16.5: an iterator that was asked for when nothing stood tells what stands now, and the other way round.
func TestAllOfNone(t *testing.T) {
	d := made(t, 12)
	all := d.All()
	wantTold(t, "of none", all)
	set(t, d, nine()...)
	wantTold(t, "of nine", all, nine()...)
	takeAll(d)
	wantTold(t, "of none again", all)
}

// P16.5: what is done meanwhile, at each place, changes nothing of that going over; what goes over it meanwhile, and later, shows it.
func TestAllChangedMeanwhile(t *testing.T) {
	for what, change := range changes() {
		for when := range nine() {
			d := made(t, 12, nine()...)
			all := d.All()
			var list, inner []api.Due
			for x := range all {
				list = append(list, x)
				if len(list) == when+1 {
					change(d)
					inner = slices.Collect(all)
				}
			}
			if !slices.Equal(list, nine()) {
				t.Errorf("%s at %d: %v", what, when, list)
			}
			if slices.Equal(inner, nine()) {
				t.Errorf("%s at %d: does not show within", what, when)
			}
			wantTold(t, what+": behind it", all, inner...)
			wantStand(t, what, d, inner...)
		}
	}
}

// P16.5: all that is told is taken, cut, or set anew, while it is told.
func TestAllWhileItEmptiesAndFills(t *testing.T) {
	d := made(t, 18, nine()...)
	for x := range d.All() {
		got, ok := d.Take(x.At)
		wantDue(t, "Take", got, ok, x, true)
	}
	wantStand(t, "emptied", d)
	set(t, d, nine()...)
	for x := range d.All() {
		wantTrue(t, "Cut", d.Cut(x.Object, x.Fence), true)
		wantErr(t, "Set", d.Set(due(1, x.Object, x.Fence)), api.OK)
		wantErr(t, "Set another", d.Set(due(1, x.Object+10, x.Fence)), api.OK)
	}
	var want []api.Due
	for _, x := range nine() {
		want = append(want, due(1, x.Object, x.Fence), due(1, x.Object+10, x.Fence))
	}
	wantStand(t, "filled", d, inOrder(want)...)
}

// P16.5: iterators beside one another, one within the other, of one Dues and of two.
func TestAllWithinAll(t *testing.T) {
	d, e := made(t, 3, due(1, 1, 1), due(2, 2, 2)), made(t, 3, due(3, 3, 3), due(4, 4, 4))
	all, others := d.All(), e.All()
	var list []uint32
	for x := range all {
		for y := range all {
			for z := range others {
				list = append(list, 100*x.At+10*y.At+z.At)
			}
		}
	}
	if want := []uint32{113, 114, 123, 124, 213, 214, 223, 224}; !slices.Equal(list, want) {
		t.Errorf("%v, want %v", list, want)
	}
}

// P0.1: what is told is a copy: changing it changes nothing of what stands.
func TestToldAreCopies(t *testing.T) {
	d := made(t, 9, nine()...)
	for x := range d.All() {
		x.At, x.Object = 77, 88
		_ = x
	}
	list := slices.Collect(d.All())
	clear(list)
	x, _ := d.First()
	x.At = 99
	wantStand(t, "behind changes of copies", d, nine()...)
}

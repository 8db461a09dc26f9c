package track

import (
	"fmt"
	"math"
	"math/rand"
	"slices"
	"testing"

	"paddock/api"
)

// P18.3: each wrong number of objects and of fences, and the least and the greatest right ones.
func TestNew(t *testing.T) {
	numbers := []int{math.MinInt, math.MinInt32, -64, -1, 0, 1, 2, 63, 64, 65, 66, 128, 1 << 16, math.MaxInt32, math.MaxInt}
	right := func(n int) bool { return n >= 1 && n <= 64 }
	for _, objects := range numbers {
		for _, fences := range numbers {
			what := fmt.Sprintf("New(%d, %d)", objects, fences)
			b, e := New(objects, fences)
			if !right(objects) || !right(fences) {
				wantErr(t, what, e, api.ErrArg)
				wantTrue(t, what+": none", b == nil, true)
				continue
			}
			wantErr(t, what, e, api.OK)
			wantBook(t, what, b, &plain{objects: objects, fences: fences})
		}
	}
}

// The chapter's table.
func TestExamplesOfBooks(t *testing.T) {
	b, e := New(1, 2)
	wantErr(t, "New(1, 2)", e, api.OK)
	wantErr(t, "AddFence(7)", b.AddFence(7), api.OK)
	wantErr(t, "AddFence(7) again", b.AddFence(7), api.ErrTracked)
	p, was, e := b.Move(4, 1, 0, at(3, 3))
	wantTrue(t, "Move(4)", p == at(0, 0) && !was && e == api.OK, true)
	p, was, e = b.Move(5, 1, 0, at(3, 3))
	wantTrue(t, "Move(5)", p == at(0, 0) && !was && e == api.ErrFull, true)
	in, e := b.Enter(4, 7)
	wantTrue(t, "Enter(4, 7)", in && e == api.OK, true)
	in, e = b.Enter(4, 7)
	wantTrue(t, "Enter(4, 7) again", !in && e == api.OK, true)
	in, e = b.Enter(4, 8)
	wantTrue(t, "Enter(4, 8)", !in && e == api.ErrLost, true)
	wantNumbers(t, "Inside(7)", b.Inside(7), 4)
	wantTrue(t, "DropFence(7)", b.DropFence(7), true)
	wantErr(t, "AddFence(7)", b.AddFence(7), api.OK)
	wantTrue(t, "In(4, 7)", b.In(4, 7), false)
}

// none are books that are not there: a nil one, a zero one, and one that New refused.
func none(t *testing.T) map[string]*Book {
	t.Helper()
	refused, e := New(0, 65)
	wantErr(t, "New(0, 65)", e, api.ErrArg)
	return map[string]*Book{"nil": nil, "zero": {}, "refused": refused}
}

// P18.4 to P18.7: every call to a book that is not there, with right arguments and wrong ones.
func TestNoBook(t *testing.T) {
	for what, b := range none(t) {
		for _, n := range []uint32{0, 1, 7, topmost} {
			for _, in := range [][]uint32{nil, {}, {1}, {1, 2}, {2, 1}, {1, 1}} {
				wantErr(t, what+": Lay", b.Lay(api.Object{Id: n, Speed: nan, In: in}), api.ErrNil)
			}
			p, was, e := b.Move(n, n, n, at(5, 5))
			wantTrue(t, what+": Move", p == at(0, 0) && !was && e == api.ErrNil, true)
			wantTrue(t, what+": Forget", b.Forget(n), false)
			wantErr(t, what+": AddFence", b.AddFence(n), api.ErrNil)
			wantTrue(t, what+": DropFence", b.DropFence(n), false)
			was, e = b.Enter(n, n)
			wantTrue(t, what+": Enter", !was && e == api.ErrNil, true)
			was, e = b.Leave(n, n)
			wantTrue(t, what+": Leave", !was && e == api.ErrNil, true)
			wantTrue(t, what+": In", b.In(n, n), false)
			wantNumbers(t, what+": Inside", b.Inside(n))
			o, ok := b.Get(n)
			wantTrue(t, what+": Get", sameObject(o, api.Object{}) && !ok, true)
			for range 2 {
				wantTold(t, what+": All", b.All())
			}
			wantTrue(t, what+": Len", b.Len() == 0, true)
		}
	}
}

// P18.4: an object that is not there is taken in where it is said, at no speed and in no fence; one that is there is moved, with numbers and times that rise, stay and fall.
func TestMove(t *testing.T) {
	for _, u := range [][2]uint32{{0, 0}, {0, 8}, {8, 0}, {8, 8}, {5, 6}, {topmost, 0}, {0, topmost}, {topmost, topmost}, {topmost - 1, topmost}} {
		for _, n := range [][2]uint32{{1, 2}, {2, 1}, {1, 1}, {0, topmost}, {topmost, 0}} {
			for _, m := range moves() {
				what := fmt.Sprint("Move at ", u, n, m)
				b, p := made(t, 2, 2, adding(7), moving(3, 5, 5, at(1, 1)), entering(3, 7), moving(9, n[0], u[0], m[0]))
				o, ok := b.Get(9)
				wantTrue(t, what+": taken in", ok && sameObject(o, api.Object{Id: 9, Number: n[0], Time: u[0], Place: m[0]}), true)
				both(t, what, b, p, entering(9, 7))
				was, moved, e := b.Move(9, n[1], u[1], m[1])
				said(p, moving(9, n[1], u[1], m[1]))
				wantTrue(t, what, was == m[0] && moved && e == api.OK, true)
				o, ok = b.Get(9)
				want := api.Object{Id: 9, Number: n[1], Time: u[1], Place: m[1], Speed: wordSpeed(0, m[0], m[1], u[0], u[1]), In: []uint32{7}}
				wantTrue(t, what+": moved", ok && sameObject(o, want), true)
				wantBook(t, what, b, p)
			}
		}
	}
}

// P18.4: the speed goes on from the one there was, by the places and times there were, whatever was refused or done to others meanwhile.
func TestMoveOn(t *testing.T) {
	random := rand.New(rand.NewSource(184))
	b, p := made(t, 2, 1, adding(0), moving(1, 0, 0, at(0, 0)))
	want := api.Object{Id: 1}
	for n := range uint32(300) {
		q, u := anyPoint(random), random.Uint32()>>random.Intn(32)
		both(t, "another one", b, p, moving(2, n, n, anyPoint(random)))
		both(t, "one too many", b, p, moving(3, n, n, q))
		was, moved, e := b.Move(1, n*977, u, q)
		said(p, moving(1, n*977, u, q))
		wantTrue(t, "Move", was == want.Place && moved && e == api.OK, true)
		want = api.Object{Id: 1, Number: n * 977, Time: u, Place: q, Speed: wordSpeed(want.Speed, want.Place, q, want.Time, u)}
		o, ok := b.Get(1)
		wantTrue(t, fmt.Sprint(o, ", want ", want), ok && sameObject(o, want), true)
	}
	wantBook(t, "at the end", b, p)
}

// P18.4: when the book is full, those that are there still move, others are refused, and nothing has changed.
func TestMoveWhenFull(t *testing.T) {
	for _, objects := range []int{1, 2, 63, 64} {
		b, p := made(t, objects, 1, adding(1))
		for i := range uint32(objects) {
			both(t, "Move", b, p, moving(2*i, i, i, at(int32(i), 0)))
			both(t, "Enter", b, p, entering(2*i, 1))
		}
		for _, other := range []uint32{1, 3, topmost, 1 << 31} {
			was, moved, e := b.Move(other, 9, 9, at(9, 9))
			wantTrue(t, "one more", was == at(0, 0) && !moved && e == api.ErrFull, true)
		}
		wantBook(t, "full", b, p)
		for i := range uint32(objects) {
			a := both(t, "Move again", b, p, moving(2*i, i+1, i+9, at(0, int32(i))))
			wantTrue(t, "moved", a.ok && a.place == at(int32(i), 0), true)
		}
		wantBook(t, "full, and moved", b, p)
	}
}

// P18.8: speeds that no Lay put there are numbers from 0 on, whatever moves there are.
func TestSpeedsOfMoves(t *testing.T) {
	random := rand.New(rand.NewSource(188))
	b, _ := made(t, 4, 1)
	for range 20000 {
		q := anyPoint(random)
		if list := moves(); random.Intn(3) == 0 {
			q = list[random.Intn(len(list))][random.Intn(2)]
		}
		object := random.Uint32() % 4
		b.Move(object, 0, random.Uint32()>>random.Intn(32), q)
		if o, _ := b.Get(object); !(o.Speed >= 0 && o.Speed < 1e10) {
			t.Fatalf("%v", o)
		}
	}
}

// P18.4: an object is laid in as it is said, whatever its numbers are.
func TestLay(t *testing.T) {
	for _, speed := range olds() {
		for _, in := range [][]uint32{nil, {}, {0}, {5}, {topmost}, {0, 5}, {0, topmost}, {5, topmost}, {0, 5, topmost}} {
			for _, place := range []api.Point{at(0, 0), at(least, greatest), at(greatest, least), at(api.Bound+1, 0)} {
				want := api.Object{Id: 7, Number: topmost, Time: 1 << 31, Place: place, Speed: speed, In: in}
				what := fmt.Sprint("Lay of ", want)
				b, p := made(t, 2, 3, adding(5), adding(topmost), adding(0), laying(want))
				o, ok := b.Get(7)
				wantTrue(t, what, ok && sameObject(o, want) && math.Signbit(o.Speed) == math.Signbit(speed), true)
				both(t, what, b, p, moving(7, 1, 1<<31+8, at(3, 4)))
				o, _ = b.Get(7)
				wantFloat(t, what+", moved", o.Speed, wordSpeed(speed, place, at(3, 4), 1<<31, 1<<31+8))
				wantBook(t, what+", moved", b, p)
			}
		}
	}
}

// P18.4: the order of Lay's errors, each with each one behind it, and that nothing has changed.
func TestLayRefused(t *testing.T) {
	lists := map[api.Errno][][]uint32{
		api.ErrArg:  {{2, 1}, {1, 1}, {1, 2, 2}, {2, 3, 1}, {2, 2, 9}, {9, 2}, {9, 9}, {9, 8}, {topmost, 0}, {0, 0}, {1, 3, 2, 4}},
		api.ErrLost: {{9}, {0}, {1, 9}, {0, 1}, {1, 2, 3, 4}, {1, 5}, {topmost}, {3, topmost}, {1<<8 + 1}, {1<<16 + 2}, {1<<31 + 3}},
		api.OK:      {nil, {}, {1}, {3}, {1, 2}, {1, 3}, {1, 2, 3}},
	}
	for e, list := range lists {
		for _, in := range list {
			for _, full := range []bool{false, true} {
				start := []call{adding(3), adding(1), adding(2), moving(6, 1, 1, at(1, 1)), entering(6, 2), entering(6, 1)}
				room := 2
				if full {
					room = 1
				}
				what := fmt.Sprint("Lay in ", in, ", full: ", full)
				b, p := made(t, room, 3, start...)
				wantErr(t, what+", there", b.Lay(api.Object{Id: 6, Speed: 2, In: in}), api.ErrArg)
				wantBook(t, what+", there", b, p)
				want := e
				if full && e != api.ErrArg {
					want = api.ErrFull
				}
				o := api.Object{Id: 4, Number: 3, Speed: 2, In: in}
				wantErr(t, what, b.Lay(o), want)
				wantErr(t, what+" by the words", said(p, laying(o)).err, want)
				wantBook(t, what, b, p)
			}
		}
	}
}

// P18.4: a list longer than there may be fences, of which the first ones are there.
func TestLayInTooMany(t *testing.T) {
	b, p := made(t, 1, 64)
	var in []uint32
	for i := range uint32(64) {
		both(t, "AddFence", b, p, adding(i))
		in = append(in, i)
	}
	wantErr(t, "one too many", b.Lay(api.Object{In: append(slices.Clone(in), 64)}), api.ErrLost)
	many := make([]uint32, 100000)
	for i := range many {
		many[i] = uint32(i)
	}
	wantErr(t, "far too many", b.Lay(api.Object{In: many}), api.ErrLost)
	many[99999] = 7
	wantErr(t, "far too many, falling at last", b.Lay(api.Object{In: many}), api.ErrArg)
	wantBook(t, "none", b, p)
	both(t, "all", b, p, laying(api.Object{Id: 3, In: in}))
	wantBook(t, "in all", b, p)
}

// P18.4: Forget of what is there and of what is not; the others stay.
func TestForget(t *testing.T) {
	ids := []uint32{0, 3, 4, 1 << 31, topmost}
	for _, gone := range ids {
		b, p := made(t, 5, 2, adding(1), adding(2))
		for i, id := range ids {
			both(t, "Lay", b, p, laying(api.Object{Id: id, Number: uint32(i), Speed: 2.5, In: []uint32{1, 2}[:i%3]}))
		}
		for _, other := range []uint32{1, 2, 5, 1<<31 - 1, 1<<31 + 1, topmost - 1} {
			wantTrue(t, "Forget of what is not there", b.Forget(other), false)
		}
		wantBook(t, "nothing forgotten", b, p)
		for _, was := range []bool{true, false, false} {
			what := fmt.Sprint("Forget of ", gone)
			wantTrue(t, what, both(t, what, b, p, forgetting(gone)).ok, was)
			wantBook(t, what, b, p)
		}
		// It comes back as one that was never there.
		a := both(t, "Move", b, p, moving(gone, 9, 9, at(8, 8)))
		wantTrue(t, "it was not there", !a.ok && a.place == at(0, 0), true)
		wantBook(t, "back again", b, p)
	}
}

// P18.5: fences come and go; the order of errors; those that are not there.
func TestFences(t *testing.T) {
	for _, fences := range []int{1, 2, 63, 64} {
		b, p := made(t, 1, fences, moving(5, 1, 1, at(0, 0)))
		for i := range uint32(fences) {
			wantErr(t, "AddFence", both(t, "AddFence", b, p, adding(3*i)).err, api.OK)
			wantErr(t, "AddFence again", both(t, "AddFence", b, p, adding(3*i)).err, api.ErrTracked)
			both(t, "Enter", b, p, entering(5, 3*i))
		}
		wantBook(t, "full", b, p)
		for _, other := range []uint32{1, 2, topmost, 1 << 31} {
			wantErr(t, "one more", b.AddFence(other), api.ErrFull)
			wantTrue(t, "DropFence of what is not there", b.DropFence(other), false)
		}
		wantErr(t, "one that is there, when it is full", b.AddFence(0), api.ErrTracked)
		wantBook(t, "full still", b, p)
		wantTrue(t, "DropFence", both(t, "DropFence", b, p, dropping(0)).ok, true)
		wantTrue(t, "DropFence again", both(t, "DropFence", b, p, dropping(0)).ok, false)
		wantBook(t, "without one", b, p)
		wantErr(t, "another one", both(t, "AddFence", b, p, adding(topmost)).err, api.OK)
		wantErr(t, "one more", both(t, "AddFence", b, p, adding(1)).err, api.ErrFull)
		wantBook(t, "with another one", b, p)
	}
}

// P18.6: Enter and Leave of what is there, twice over, and of what is not: the object, the fence, or both.
func TestEnterAndLeave(t *testing.T) {
	ids := []uint32{0, 1, topmost}
	b, p := made(t, 3, 3, adding(topmost), adding(0), adding(1), moving(1, 1, 1, at(1, 1)), moving(topmost, 2, 2, at(2, 2)), moving(0, 3, 3, at(3, 3)))
	for _, object := range ids {
		for _, fence := range ids {
			for _, c := range []call{entering(object, fence), leaving(object, fence), entering(object, fence)} {
				what := c.String()
				a := both(t, what, b, p, c)
				wantTrue(t, what, a.ok, c.kind == callEnter || b.Len() == 3)
				wantBook(t, what, b, p)
				wantTrue(t, what+" again", both(t, what, b, p, c).ok, false)
				wantBook(t, what+" again", b, p)
			}
		}
	}
	for _, c := range [][2]uint32{{0, 2}, {2, 0}, {2, 2}, {topmost - 1, topmost}, {topmost, topmost - 1}, {1 << 31, 1 << 31}} {
		was, e := b.Enter(c[0], c[1])
		wantTrue(t, fmt.Sprint("Enter of ", c), !was && e == api.ErrLost, true)
		was, e = b.Leave(c[0], c[1])
		wantTrue(t, fmt.Sprint("Leave of ", c), !was && e == api.ErrLost, true)
		wantTrue(t, fmt.Sprint("In of ", c), b.In(c[0], c[1]), false)
	}
	wantBook(t, "at the end", b, p)
}

// P18.9: an object in a fence and an object and a fence that change places are two things.
func TestNotTurnedRound(t *testing.T) {
	b, p := made(t, 2, 2, adding(1), adding(2), moving(1, 0, 0, at(0, 0)), moving(2, 0, 0, at(0, 0)), entering(1, 2))
	wantTrue(t, "In(1, 2)", b.In(1, 2), true)
	wantTrue(t, "In(2, 1)", b.In(2, 1), false)
	wantNumbers(t, "Inside(2)", b.Inside(2), 1)
	wantNumbers(t, "Inside(1)", b.Inside(1))
	wantBook(t, "one in the other", b, p)
}

// P18.9: the room of a fence that is dropped goes to another one, in which nothing is, though all were in the one ahead of it.
func TestRoomOfFences(t *testing.T) {
	b, p := made(t, 3, 4, adding(10), adding(20), adding(30), adding(40), moving(1, 0, 0, at(0, 0)), moving(2, 0, 0, at(0, 0)))
	for object := uint32(1); object <= 2; object++ {
		for fence := uint32(10); fence <= 40; fence += 10 {
			both(t, "Enter", b, p, entering(object, fence))
		}
	}
	for n, gone := range []uint32{20, 40, 10, 30, 1, 2, 3, 4} {
		other := uint32(n + 1)
		what := fmt.Sprint(other, " for ", gone)
		both(t, what, b, p, dropping(gone))
		wantTrue(t, what+": Inside", b.Inside(gone) == nil, true)
		wantBook(t, what+": dropped", b, p)
		wantErr(t, what, both(t, what, b, p, adding(other)).err, api.OK)
		wantBook(t, what+": added", b, p)
		both(t, what, b, p, entering(1+other%2, other))
		both(t, what, b, p, laying(api.Object{Id: 3, In: []uint32{other}}))
		wantBook(t, what+": entered", b, p)
		both(t, what, b, p, forgetting(3))
	}
}

// P18.9: the room of an object that is forgotten goes to another one, which is in nothing, though it was in all.
func TestRoomOfObjects(t *testing.T) {
	b, p := made(t, 2, 2, adding(1), adding(2))
	both(t, "Lay", b, p, laying(api.Object{Id: 100, Number: 7, Time: 7, Place: at(7, 7), Speed: 7, In: []uint32{1, 2}}))
	both(t, "Lay", b, p, laying(api.Object{Id: 0, Number: 8, Time: 8, Place: at(8, 8), Speed: 8, In: []uint32{1, 2}}))
	gone := []uint32{100, 0}
	for n := range uint32(20) {
		other := (n*37 + 1) % 90
		what := fmt.Sprint(other, " for ", gone[0])
		wantErr(t, what+" ahead of it", both(t, what, b, p, moving(other, 1, 100, at(0, 1))).err, api.ErrFull)
		both(t, what, b, p, forgetting(gone[0]))
		a := both(t, what, b, p, moving(other, 1, 100, at(0, 1)))
		wantTrue(t, what, !a.ok && a.place == at(0, 0) && a.err == api.OK, true)
		o, ok := b.Get(other)
		wantTrue(t, what+": nothing is left", ok && sameObject(o, api.Object{Id: other, Number: 1, Time: 100, Place: at(0, 1)}), true)
		both(t, what, b, p, entering(other, 1+n%2))
		both(t, what, b, p, moving(other, 2, 108, at(3, 5)))
		wantBook(t, what, b, p)
		gone = []uint32{gone[1], other}
	}
}

// P18.7: In rises by number, in whatever order the fences came, and whatever was dropped ahead of them.
func TestInRises(t *testing.T) {
	for _, order := range orders(5) {
		b, p := made(t, 1, 6, adding(99), adding(50), moving(1, 0, 0, at(0, 0)))
		both(t, "DropFence", b, p, dropping(99))
		for _, i := range order {
			fence := []uint32{0, 7, 8, 1 << 31, topmost}[i]
			both(t, "AddFence", b, p, adding(fence))
			both(t, "Enter", b, p, entering(1, fence))
		}
		o, _ := b.Get(1)
		wantNumbers(t, fmt.Sprint("In, added in the order ", order), o.In, 0, 7, 8, 1<<31, topmost)
		wantBook(t, fmt.Sprint("added in the order ", order), b, p)
	}
}

// P18.6: Inside rises by number, in whatever order the objects came and entered.
func TestInsideRises(t *testing.T) {
	ids := []uint32{0, 7, 8, 1 << 31, topmost}
	for n, order := range orders(5) {
		b, p := made(t, 5, 1, adding(3))
		for _, i := range order {
			both(t, "Move", b, p, moving(ids[i], 0, 0, at(0, 0)))
		}
		for _, i := range orders(5)[(n*77)%120] {
			both(t, "Enter", b, p, entering(ids[i], 3))
		}
		wantNumbers(t, fmt.Sprint("Inside, moved in the order ", order), b.Inside(3), ids...)
		wantBook(t, fmt.Sprint("moved in the order ", order), b, p)
	}
}

// P18.3, P18.9: as many of each as there may be at the most, all in all, and out again.
func TestMost(t *testing.T) {
	b, p := made(t, 64, 64)
	for i := range uint32(64) {
		both(t, "AddFence", b, p, adding(i*29%64))
		both(t, "Move", b, p, moving(i*37%64, i, i, at(int32(i), 0)))
	}
	for i := range uint32(4096) {
		both(t, "Enter", b, p, entering(i*611%4096/64, i*611%4096%64))
	}
	wantBook(t, "all in all", b, p)
	for i := range uint32(64) {
		both(t, "Leave", b, p, leaving(i, i*5%64))
		both(t, "Leave", b, p, leaving(i, i*7%64))
	}
	wantBook(t, "some out", b, p)
	for i := range uint32(32) {
		both(t, "DropFence", b, p, dropping(2*i))
		both(t, "Forget", b, p, forgetting(2*i+1))
	}
	wantBook(t, "half of both", b, p)
	for i := range uint32(32) {
		both(t, "AddFence", b, p, adding(100-i))
		both(t, "Move", b, p, moving(200-i, i, i, at(0, int32(i))))
	}
	wantBook(t, "others for them", b, p)
}

// P0.1: what is handed in to Lay is not changed, spare room behind it included, and not kept.
func TestLayKeepsNothing(t *testing.T) {
	b, p := made(t, 2, 4, adding(1), adding(2), adding(3), adding(4))
	room := []uint32{1, 3, 77, 88}
	o := api.Object{Id: 5, Speed: 2, In: room[:2]}
	both(t, "Lay", b, p, laying(o))
	both(t, "Enter", b, p, entering(5, 2))
	both(t, "Enter", b, p, entering(5, 4))
	wantNumbers(t, "what was handed in", room, 1, 3, 77, 88)
	room[0], room[1] = 4, 9
	o.In = nil
	wantBook(t, "behind changes of what was handed in", b, p)
	wantErr(t, "refused", b.Lay(api.Object{Id: 6, In: room[:2]}), api.ErrLost)
	wantErr(t, "refused", b.Lay(api.Object{Id: 6, In: room[1:3:4]}), api.ErrLost)
	wantErr(t, "refused", b.Lay(api.Object{Id: 5, In: room[:2]}), api.ErrArg)
	wantNumbers(t, "what was refused", room, 4, 9, 77, 88)
	wantBook(t, "behind what was refused", b, p)
}

// spoil changes all of a list, its spare room too.
func spoil(list []uint32) {
	list = list[:cap(list)]
	for i := range list {
		list[i] = 0xbad
	}
}

// P0.1: what is answered is new memory, spare room included.
func TestAnswersAreApart(t *testing.T) {
	b, p := made(t, 4, 4, adding(1), adding(2), adding(3), adding(4))
	for id := range uint32(3) {
		both(t, "Lay", b, p, laying(api.Object{Id: id, In: []uint32{1, 2, 4}}))
	}
	all := b.All()
	list := slices.Collect(all)
	one, _ := b.Get(1)
	in, other := b.Inside(2), b.Inside(2)
	for _, o := range list {
		spoil(o.In)
	}
	wantNumbers(t, "one that was told ahead of that", one.In, 1, 2, 4)
	spoil(one.In)
	spoil(in)
	wantNumbers(t, "another answer", other, 0, 1, 2)
	spoil(other)
	wantTold(t, "gone over again", all, p.list...)
	wantBook(t, "behind changes of what was told", b, p)
	for o := range all {
		spoil(o.In)
		o.Id, o.Speed = 9, 9
	}
	wantTold(t, "gone over again", all, p.list...)
	wantBook(t, "behind changes of what was told", b, p)
}

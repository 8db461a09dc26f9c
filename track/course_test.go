package track

import (
	"fmt"
	"math/rand"
	"testing"

	"paddock/api"
)

// fewCalls are calls of each kind, over two objects and two fences, and one of each more.
func fewCalls() []call {
	return []call{
		adding(5), adding(3), dropping(5), moving(1, 1, 1, at(1, 1)), moving(1, 2, 9, at(4, 5)), moving(2, 1, 5, at(7, 7)), forgetting(1),
		laying(api.Object{Id: 2, Speed: 1, In: []uint32{5}}), laying(api.Object{Id: 1, Speed: 2, In: []uint32{3, 5}}),
		entering(1, 5), entering(2, 3), leaving(1, 5),
	}
}

// course does the calls that a number tells, behind some that were made, and fails, unless each answers by the words, and the book is behind them all as they say.
func course(t *testing.T, what string, b *Book, p *plain, few []call, length, number int) {
	t.Helper()
	what = fmt.Sprintf("%s, %d calls, course %d", what, length, number)
	for range length {
		both(t, what, b, p, few[number%len(few)])
		number /= len(few)
	}
	wantBook(t, what, b, p)
}

// everyCourse does all courses of so many calls, each of a new book to which some were made already.
func everyCourse(t *testing.T, objects, fences int, start, few []call, length int) {
	t.Helper()
	courses := 1
	for range length {
		courses *= len(few)
	}
	for number := range courses {
		b, p := made(t, objects, fences, start...)
		course(t, fmt.Sprintf("room for %d and %d", objects, fences), b, p, few, length, number)
		if t.Failed() {
			return
		}
	}
}

// P18.4 to P18.9: every course of up to three calls, with room for one and two, held against plain lists.
func TestEveryCourse(t *testing.T) {
	for objects := 1; objects <= 2; objects++ {
		for fences := 1; fences <= 2; fences++ {
			for length := range 4 {
				everyCourse(t, objects, fences, nil, fewCalls(), length)
			}
		}
	}
}

// P18.4 to P18.9: every course of three calls behind a book that has objects in fences, full or not.
func TestEveryCourseOfFilled(t *testing.T) {
	start := []call{adding(3), adding(5), moving(1, 1, 1, at(0, 0)), laying(api.Object{Id: 2, Speed: 3, In: []uint32{3, 5}}), entering(1, 5)}
	for room := 2; room <= 3; room++ {
		few := append(fewCalls(), adding(4), entering(1, 4), moving(9, 1, 1, at(0, 0)), entering(9, 4), forgetting(2), dropping(3))
		everyCourse(t, room, room, start, few, 3)
	}
}

// P18.9: every course of six calls by which one fence, or one object, comes behind another into its room.
func TestEveryLongerCourse(t *testing.T) {
	few := []call{adding(5), adding(3), dropping(5), moving(1, 1, 1, at(1, 1)), entering(1, 5), forgetting(1)}
	everyCourse(t, 1, 1, nil, few, 6)
	everyCourse(t, 1, 2, nil, few, 6)
}

// P18.9: the same calls in every order, none of which asks for another one, say the same in the end, and every call goes on alike.
func TestEveryOrder(t *testing.T) {
	kinds := [][]call{
		{adding(0), adding(7), adding(8), adding(topmost)},
		{moving(0, 1, 1, at(1, 1)), moving(7, 2, 2, at(2, 2)), moving(8, 3, 3, at(3, 3)), moving(topmost, 4, 4, at(4, 4))},
		{entering(0, 0), entering(0, 8), entering(8, 8), entering(topmost, 0)},
		{leaving(0, 0), dropping(8), forgetting(8), moving(7, 3, 9, at(8, 8))},
	}
	_, want := made(t, 4, 4)
	for _, list := range kinds {
		for _, c := range list {
			said(want, c)
		}
	}
	for _, order := range orders(4) {
		for kind := range kinds {
			what := fmt.Sprintf("kind %d in the order %v", kind, order)
			b, _ := made(t, 4, 4)
			for k, list := range kinds {
				for i := range list {
					if k == kind {
						i = order[i]
					}
					done(b, list[i])
				}
			}
			wantBook(t, what, b, want)
		}
	}
}

// P18.9: what was there ahead of it shows nowhere, in whatever order it came and went.
func TestPastShowsNowhere(t *testing.T) {
	random := rand.New(rand.NewSource(189))
	for n := range 300 {
		b, p := made(t, 8, 6)
		for range random.Intn(80) {
			both(t, "ahead of it", b, p, anyCall(random))
		}
		for _, o := range copied(p.list) {
			both(t, "emptied", b, p, forgetting(o.Id))
		}
		for _, fence := range p.fenced {
			both(t, "emptied", b, p, dropping(fence))
		}
		wantBook(t, "emptied", b, &plain{})
		_, want := filled(t)
		for _, i := range random.Perm(len(want.fenced)) {
			both(t, "again", b, p, adding(want.fenced[i]))
		}
		for _, i := range random.Perm(len(want.list)) {
			both(t, "again", b, p, laying(want.list[i]))
		}
		wantBook(t, fmt.Sprint("past ", n), b, want)
	}
}

// anyNumber is a small one, or one at the end.
func anyNumber(random *rand.Rand) uint32 {
	if random.Intn(12) == 0 {
		return topmost - random.Uint32()%2
	}
	return random.Uint32() % 8
}

// anyIn is a list of fences, mostly rising.
func anyIn(random *rand.Rand) []uint32 {
	var list []uint32
	for n := uint32(0); len(list) < 3 && random.Intn(3) > 0; n += 1 + random.Uint32()%4 {
		list = append(list, n)
	}
	if len(list) > 1 && random.Intn(8) == 0 {
		list[0] = list[1]
	}
	return list
}

// anyCall is a call of any kind, with any numbers; most of them take something in.
func anyCall(random *rand.Rand) call {
	kind := random.Intn(calls)
	if random.Intn(3) == 0 {
		kind = []int{callMove, callAddFence, callEnter, callEnter}[random.Intn(4)]
	}
	c := call{kind: kind, o: api.Object{Id: anyNumber(random)}, fence: anyNumber(random)}
	if kind == callMove || kind == callLay {
		c.o.Number, c.o.Time, c.o.Place = random.Uint32()%9, random.Uint32()>>random.Intn(32), anyPoint(random)
	}
	if kind == callLay {
		c.o.Speed, c.o.In = anyOld(random), anyIn(random)
	}
	return c
}

// P18.4 to P18.9: any course of calls, with much room and little.
func TestAnyCourse(t *testing.T) {
	random := rand.New(rand.NewSource(1))
	answers := map[api.Errno]int{}
	for _, room := range [][2]int{{1, 1}, {1, 5}, {5, 1}, {3, 3}, {8, 8}, {64, 64}} {
		b, p := made(t, room[0], room[1])
		for n := range 1500 {
			c := anyCall(random)
			what := fmt.Sprintf("room for %v, call %d: %v", room, n, c)
			answers[both(t, what, b, p, c).err]++
			wantBook(t, what, b, p)
			if t.Failed() {
				return
			}
		}
	}
	for _, e := range []api.Errno{api.OK, api.ErrArg, api.ErrFull, api.ErrLost, api.ErrTracked} {
		if answers[e] < 100 {
			t.Errorf("answered %d: %d times", e, answers[e])
		}
	}
}

// P0.1: two books have nothing in common, whatever is done to one of them.
func TestApart(t *testing.T) {
	random := rand.New(rand.NewSource(6))
	for range 20 {
		objects, fences := 1+random.Intn(8), 1+random.Intn(8)
		a, p := made(t, objects, fences)
		b, q := made(t, objects, fences)
		for range 150 {
			if random.Intn(2) == 0 {
				both(t, "the one", a, p, anyCall(random))
			} else {
				both(t, "the other", b, q, anyCall(random))
			}
			wantBook(t, "the one", a, p)
			wantBook(t, "the other", b, q)
			if t.Failed() {
				return
			}
		}
	}
}

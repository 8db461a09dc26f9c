package table

import (
	"fmt"
	"iter"
	"math"
	"slices"
	"testing"

	"paddock/api"
)

const (
	least    = math.MinInt
	greatest = math.MaxInt
	topmost  = math.MaxUint32
)

// wantErr fails, unless an answer is what is wanted.
func wantErr(t *testing.T, what string, got, want api.Errno) {
	t.Helper()
	if got != want {
		t.Errorf("%s: %d, want %d", what, got, want)
	}
}

// wantCount fails, unless a number is what is wanted.
func wantCount(t *testing.T, what string, got, want int) {
	t.Helper()
	if got != want {
		t.Errorf("%s: %d, want %d", what, got, want)
	}
}

// wantTrue fails, unless an answer is the truth that is wanted.
func wantTrue(t *testing.T, what string, got, want bool) {
	t.Helper()
	if got != want {
		t.Errorf("%s: %v, want %v", what, got, want)
	}
}

// wantValue fails, unless a value, with whether there is one, is what is wanted.
func wantValue[T comparable](t *testing.T, what string, v T, ok bool, want T, there bool) {
	t.Helper()
	if v != want || ok != there {
		t.Errorf("%s: %v, %v, want %v, %v", what, v, ok, want, there)
	}
}

// wantPut fails, unless Put answers these.
func wantPut[T comparable](t *testing.T, what string, x *Table[T], id uint32, v, was T, want api.Errno) {
	t.Helper()
	if got, e := x.Put(id, v); got != was || e != want {
		t.Errorf("%s: Put(%d, %v): %v, %d, want %v, %d", what, id, v, got, e, was, want)
	}
}

// pair is a number and the value under it.
type pair[T any] struct {
	id uint32
	v  T
}

// under are values under numbers, of which the text of each is made.
func under(ids ...uint32) []pair[string] {
	var list []pair[string]
	for _, id := range ids {
		list = append(list, pair[string]{id, fmt.Sprint("mare ", id)})
	}
	return list
}

// made is a new table with so much room, in which there are these, put in in this order.
func made[T any](t *testing.T, room int, list ...pair[T]) *Table[T] {
	t.Helper()
	x, e := New[T](room)
	if x == nil || e != api.OK {
		t.Fatalf("New(%d): %v, %d", room, x, e)
	}
	put(t, x, list...)
	return x
}

// put fails, unless all go in.
func put[T any](t *testing.T, x *Table[T], list ...pair[T]) {
	t.Helper()
	for _, p := range list {
		if _, e := x.Put(p.id, p.v); e != api.OK {
			t.Errorf("Put(%d, %v): %d", p.id, p.v, e)
		}
	}
}

// told are what an iterator of a table tells.
func told[T any](all iter.Seq2[uint32, T]) []pair[T] {
	var list []pair[T]
	for id, v := range all {
		list = append(list, pair[T]{id, v})
	}
	return list
}

// wantTold fails, unless an iterator of a table tells these.
func wantTold[T comparable](t *testing.T, what string, all iter.Seq2[uint32, T], want ...pair[T]) {
	t.Helper()
	if all == nil {
		t.Errorf("%s: no iterator", what)
	} else if got := told(all); !slices.Equal(got, want) {
		t.Errorf("%s: %v, want %v", what, got, want)
	}
}

// wantNumbers fails, unless an iterator of a set tells these.
func wantNumbers(t *testing.T, what string, all iter.Seq[int], want ...int) {
	t.Helper()
	if all == nil {
		t.Errorf("%s: no iterator", what)
	} else if got := slices.Collect(all); !slices.Equal(got, want) {
		t.Errorf("%s: %v, want %v", what, got, want)
	}
}

// wantTable fails, unless in a table there are these, by number rising, told in each way, and nothing else is kept.
func wantTable[T comparable](t *testing.T, what string, x *Table[T], room int, want ...pair[T]) {
	t.Helper()
	p := &plain[T]{room, want}
	wantTold(t, what+": All", x.All(), want...)
	wantCount(t, what+": Len", x.Len(), len(want))
	wantCount(t, what+": Room", x.Room(), room)
	ids := []uint32{0, 1, topmost - 1, topmost}
	for _, q := range want {
		ids = append(ids, q.id-1, q.id, q.id+1)
	}
	for _, id := range ids {
		for _, c := range []call[T]{{kind: callGet, id: id}, {kind: callNext, id: id}, {kind: callNext, id: id, all: true}} {
			both(t, what, x, p, c)
		}
	}
	for i, r := range x.rows[len(x.rows):cap(x.rows)] {
		if r != nil {
			t.Errorf("%s: kept %d behind the end: %v", what, i+1, *r)
		}
	}
}

// plain is a table by the chapter's words: a list by number.
type plain[T any] struct {
	room int
	list []pair[T]
}

func (p *plain[T]) put(id uint32, v T) (was T, e api.Errno) {
	for i, q := range p.list {
		if q.id == id {
			p.list = slices.Clone(p.list)
			p.list[i].v = v
			return q.v, api.OK
		}
	}
	if len(p.list) == p.room {
		return was, api.ErrFull
	}
	at := 0
	for at < len(p.list) && p.list[at].id < id {
		at++
	}
	p.list = slices.Concat(p.list[:at], []pair[T]{{id, v}}, p.list[at:])
	return was, api.OK
}

func (p *plain[T]) get(id uint32) (v T, ok bool) {
	for _, q := range p.list {
		if q.id == id {
			return q.v, true
		}
	}
	return v, false
}

func (p *plain[T]) del(id uint32) (v T, ok bool) {
	for i, q := range p.list {
		if q.id == id {
			p.list = slices.Concat(p.list[:i], p.list[i+1:])
			return q.v, true
		}
	}
	return v, false
}

func (p *plain[T]) next(after uint32, all bool) (id uint32, v T, ok bool) {
	for _, q := range p.list {
		if all || q.id > after {
			return q.id, q.v, true
		}
	}
	return 0, v, false
}

// calls of each kind.
const (
	callPut = iota
	callGet
	callDel
	callNext
	calls
)

// call is one of them, with what it is given.
type call[T any] struct {
	kind int
	id   uint32
	v    T
	all  bool
}

func (c call[T]) String() string {
	return fmt.Sprint([]string{"Put", "Get", "Del", "Next"}[c.kind], "(", c.id, ", ", c.v, ", ", c.all, ")")
}

// answer is what a call answered; what its kind does not answer is zero.
type answer[T any] struct {
	id  uint32
	v   T
	ok  bool
	err api.Errno
}

// done does a call.
func done[T any](x *Table[T], c call[T]) (a answer[T]) {
	switch c.kind {
	case callPut:
		a.v, a.err = x.Put(c.id, c.v)
	case callGet:
		a.v, a.ok = x.Get(c.id)
	case callDel:
		a.v, a.ok = x.Del(c.id)
	case callNext:
		a.id, a.v, a.ok = x.Next(c.id, c.all)
	}
	return a
}

// said does the same by the words.
func said[T any](p *plain[T], c call[T]) (a answer[T]) {
	switch c.kind {
	case callPut:
		a.v, a.err = p.put(c.id, c.v)
	case callGet:
		a.v, a.ok = p.get(c.id)
	case callDel:
		a.v, a.ok = p.del(c.id)
	case callNext:
		a.id, a.v, a.ok = p.next(c.id, c.all)
	}
	return a
}

// both does a call and says it by the words, and fails, unless both answer the same.
func both[T comparable](t *testing.T, what string, x *Table[T], p *plain[T], c call[T]) answer[T] {
	t.Helper()
	got, want := done(x, c), said(p, c)
	if got != want {
		t.Errorf("%s: %v: %v, want %v", what, c, got, want)
	}
	return got
}

// orders are all orders of the numbers below n.
func orders(n int) [][]int {
	if n == 0 {
		return [][]int{{}}
	}
	var list [][]int
	for _, shorter := range orders(n - 1) {
		for i := range n {
			list = append(list, slices.Insert(slices.Clone(shorter), i, n-1))
		}
	}
	return list
}

// mixed are the same ones in another order.
func mixed[E any](list []E, places []int) []E {
	var other []E
	for _, i := range places {
		other = append(other, list[i])
	}
	return other
}

// span are the numbers from one to below another.
func span(from, to int) []int {
	var list []int
	for i := from; i < to; i++ {
		list = append(list, i)
	}
	return list
}

package wire

import (
	"bytes"
	"math/rand"
	"slices"
	"testing"

	"paddock/api"
)

// found is a frame that was told.
type found struct {
	at   int
	body string
}

// told is what a stream tells.
func told(b []byte) []found {
	var list []found
	for at, body := range Frames(b) {
		list = append(list, found{at, string(body)})
	}
	return list
}

// framesOf is P3.6's words: at each place, the frame that stands there or one byte further.
func framesOf(b []byte) []found {
	var list []found
	for at := 0; at < len(b); {
		n := -1
		if at+8 <= len(b) && b[at] == 0x50 && b[at+1] == 0x64 {
			n = int(b[at+2]) + 256*int(b[at+3])
		}
		if n < 0 || n > 8184 || at+8+n > len(b) || !bytes.Equal(b[at:at+8+n], frameOf(b[at+8:at+8+n])) {
			at++
			continue
		}
		list = append(list, found{at, string(b[at+8 : at+8+n])})
		at += 8 + n
	}
	return list
}

// joined is all the lists, one behind the other.
func joined(lists ...[]byte) []byte { return bytes.Join(lists, nil) }

// P3.6
func TestFrames(t *testing.T) {
	x, none := frameOf([]byte("x")), frameOf(nil)
	wrong := with(x, 8, 'y')
	most := frameOf(bytes.Repeat([]byte{7}, api.MaxBody))
	over := frameOf(bytes.Repeat([]byte{7}, api.MaxBody+1))
	outer := frameOf(joined([]byte("a"), x, []byte("b")))
	for _, c := range []struct {
		what string
		b    []byte
		want []found
	}{
		{"nothing", nil, nil},
		{"no bytes", []byte{}, nil},
		{"one byte", []byte{0x50}, nil},
		{"other bytes", []byte("no frame stands here"), nil},
		{"a frame", x, []found{{0, "x"}}},
		{"an empty one", none, []found{{0, ""}}},
		{"a frame less its last byte", x[:8], nil},
		{"a head less its last byte", none[:7], nil},
		{"50, a frame, 7", joined([]byte{0x50}, x, []byte{7}), []found{{1, "x"}}},
		{"50 64, a frame", joined([]byte{0x50, 0x64}, x), []found{{2, "x"}}},
		{"a mark that reaches into a frame", joined([]byte{0x50, 0x64, 1}, x), []found{{3, "x"}}},
		{"a head that ends behind a frame", joined([]byte{0x50, 0x64, 9, 0, 1, 2, 3, 4}, x), []found{{8, "x"}}},
		{"frames one behind the other", joined(x, none, none, x), []found{{0, "x"}, {9, ""}, {17, ""}, {25, "x"}}},
		{"a wrong sum, a frame", joined(wrong, x), []found{{9, "x"}}},
		{"a frame, a wrong sum", joined(x, wrong), []found{{0, "x"}}},
		{"a frame and the begin of another", joined(x, x[:8]), []found{{0, "x"}}},
		{"a frame in a frame", outer, []found{{0, "a" + string(x) + "b"}}},
		{"a frame in a frame whose sum is wrong", with(outer, 4, outer[4]^1), []found{{9, "x"}}},
		{"a frame in a frame that is cut", outer[:len(outer)-1], []found{{9, "x"}}},
		{"the longest", joined([]byte{1}, most, x), []found{{1, string(most[8:])}, {1 + api.MaxFrame, "x"}}},
		{"one that is too long", joined(over, x), []found{{len(over), "x"}}},
	} {
		if got := told(c.b); !slices.Equal(got, c.want) || !slices.Equal(framesOf(c.b), c.want) {
			t.Errorf("%s: %d frames are told, want %d", c.what, len(got), len(c.want))
		}
	}
}

// stream is frames with other bytes between, some of them wrong or cut.
func stream(r *rand.Rand) []byte {
	var b []byte
	for range r.Intn(12) {
		f := frameOf(noise(r, r.Intn(12)))
		if r.Intn(4) == 0 {
			f = frameOf(joined(noise(r, r.Intn(4)), f, noise(r, r.Intn(4))))
		}
		switch r.Intn(7) {
		case 0:
			f[r.Intn(len(f))] ^= 1 << r.Intn(8)
		case 1:
			f = f[:r.Intn(len(f))]
		case 2:
			f = f[r.Intn(len(f)):]
		case 3:
			f = noise(r, r.Intn(9))
		case 4:
			f = []byte{0x50, 0x64, byte(r.Intn(30)), byte(r.Intn(2) * r.Intn(256))}[:r.Intn(5)]
		}
		b = append(b, f...)
	}
	return b
}

// P3.6
func TestFramesInAnything(t *testing.T) {
	r := rand.New(rand.NewSource(11))
	for range 5000 {
		b := stream(r)
		if got, want := told(b), framesOf(b); !slices.Equal(got, want) {
			t.Fatalf("% x: %v, want %v", b, got, want)
		}
	}
}

// P3.6: the stream is the one at the call; again and again, though what was told is changed.
func TestFramesAgain(t *testing.T) {
	b := joined([]byte{1, 2}, frameOf([]byte("one")), []byte{3}, frameOf([]byte("two")), frameOf(nil))
	want := framesOf(b)
	all := Frames(b)
	kept := bytes.Clone(b)
	clear(b)
	for range 3 {
		var got []found
		for at, body := range all {
			got = append(got, found{at, string(body)})
			clear(body[:cap(body)])
		}
		if !slices.Equal(got, want) || len(got) != 3 {
			t.Errorf("%v, want %v", got, want)
		}
	}
	if !bytes.Equal(b, make([]byte, len(b))) {
		t.Error("the walk changed what was handed in")
	}
	if got := told(kept); !slices.Equal(got, want) {
		t.Errorf("%v, want %v", got, want)
	}
}

// P3.6: left early behind each frame, and gone over inside another walk over the same.
func TestFramesLeftEarly(t *testing.T) {
	x := frameOf([]byte("x"))
	all := Frames(joined(x, x, x))
	for stop := 1; stop <= 3; stop++ {
		n := 0
		all(func(int, []byte) bool {
			n++
			return n < stop
		})
		if n != stop {
			t.Errorf("left behind %d: %d told", stop, n)
		}
	}
	var places []int
	for a := range all {
		for b := range all {
			places = append(places, a, b)
			if b == a {
				break
			}
		}
	}
	if !slices.Equal(places, []int{0, 0, 9, 0, 9, 9, 18, 0, 18, 9, 18, 18}) {
		t.Errorf("a walk within a walk: %v", places)
	}
}

// P3.8
func TestFramesOfFrames(t *testing.T) {
	r := rand.New(rand.NewSource(12))
	for range 500 {
		ahead := noise(r, r.Intn(30))
		for k := range ahead {
			if ahead[k] == 0x50 && r.Intn(2) == 0 {
				ahead[k] = 0
			}
		}
		b := bytes.Clone(ahead)
		var want []found
		for range r.Intn(6) {
			body := noise(r, r.Intn(50))
			want = append(want, found{len(b), string(body)})
			f, _ := Frame(body)
			b = append(b, f...)
		}
		if got := told(b); !slices.Equal(got, want) {
			t.Fatalf("%d bytes ahead: %v, want %v", len(ahead), got, want)
		}
	}
}

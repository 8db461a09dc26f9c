package wire

import (
	"bytes"
	"hash/crc32"
	"math/rand"
	"slices"
	"testing"

	"paddock/api"
)

// P3.4
func TestCrc(t *testing.T) {
	if c := Crc([]byte("123456789")); c != 0xcbf43926 {
		t.Errorf("the nine digits: %x", c)
	}
	if a, b := Crc(nil), Crc([]byte{}); a != 0 || b != 0 {
		t.Errorf("no bytes: %x, %x", a, b)
	}
	for x := range 256 {
		b := []byte{byte(x)}
		if got, want := Crc(b), crc32.ChecksumIEEE(b); got != want {
			t.Errorf("% x: %x, want %x", b, got, want)
		}
	}
	r := rand.New(rand.NewSource(6))
	for n := range 600 {
		b := noise(r, n)
		if got, want := Crc(b), crc32.ChecksumIEEE(b); got != want {
			t.Errorf("%d bytes: %x, want %x", n, got, want)
		}
	}
	if got, want := Crc(make([]byte, 100000)), crc32.ChecksumIEEE(make([]byte, 100000)); got != want {
		t.Errorf("many noughts: %x, want %x", got, want)
	}
}

// lengths are bodies' lengths, with the edges.
func lengths() []int {
	return []int{0, 1, 2, 3, 7, 8, 9, 120, 255, 256, 257, 1000, 4096, api.MaxBody - 1, api.MaxBody}
}

// P3.4, P3.8
func TestFrame(t *testing.T) {
	r := rand.New(rand.NewSource(7))
	for _, n := range lengths() {
		body := noise(r, n)
		kept := bytes.Clone(body)
		f, e := Frame(body)
		if e != api.OK || !bytes.Equal(f, frameOf(kept)) || len(f) != n+8 {
			t.Errorf("a body of %d bytes: %v, % x", n, e, head(f))
		}
		got, e := Open(f)
		if e != api.OK || !bytes.Equal(got, kept) {
			t.Errorf("a body of %d bytes, opened: %v, % x", n, e, head(got))
		}
		clear(f[:cap(f)])
		if !bytes.Equal(body, kept) || !bytes.Equal(got, kept) {
			t.Error("a frame shares memory with its body")
		}
	}
	empty, e := Frame(nil)
	if e != api.OK || !bytes.Equal(empty, frameOf(nil)) || !bytes.Equal(empty[:4], []byte{0x50, 0x64, 0, 0}) {
		t.Errorf("no body: %v, % x", e, empty)
	}
}

// P3.4
func TestFrameOver(t *testing.T) {
	for _, n := range []int{api.MaxBody + 1, api.MaxFrame, 65535, 65536, 1 << 17} {
		if f, e := Frame(make([]byte, n)); e != api.ErrOver || f != nil {
			t.Errorf("a body of %d bytes: %v, %d bytes", n, e, len(f))
		}
	}
}

// with is b with another byte at a place.
func with(b []byte, place int, x byte) []byte {
	b = bytes.Clone(b)
	b[place] = x
	return b
}

// P3.5
func TestOpen(t *testing.T) {
	x := frameOf([]byte("x"))
	wrong := with(x, 4, x[4]^1)
	over := frameOf(make([]byte, api.MaxBody+1))
	for _, c := range []struct {
		what string
		b    []byte
		want string
		e    api.Errno
	}{
		{"a frame", x, "x", api.OK},
		{"an empty one", frameOf(nil), "", api.OK},
		{"nothing", nil, "", api.ErrHead},
		{"no bytes", []byte{}, "", api.ErrHead},
		{"a mark alone", x[:2], "", api.ErrHead},
		{"seven bytes", frameOf(nil)[:7], "", api.ErrHead},
		{"seven bytes of another", []byte{1, 2, 3, 4, 5, 6, 7}, "", api.ErrHead},
		{"another first byte", with(x, 0, 0x51), "", api.ErrHead},
		{"another second byte", with(x, 1, 0x65), "", api.ErrHead},
		{"the mark turned about", with(with(x, 0, 0x64), 1, 0x50), "", api.ErrHead},
		{"another mark, a byte more", append(with(x, 0, 0x51), 0), "", api.ErrHead},
		{"another mark, a byte less", with(x, 0, 0x51)[:8], "", api.ErrHead},
		{"a length above the most, all there", over, "", api.ErrHead},
		{"a length above the most, cut", over[:8], "", api.ErrHead},
		{"a length above the most, and more", append(bytes.Clone(over), 0), "", api.ErrHead},
		{"the greatest length", with(with(x, 2, 0xff), 3, 0xff), "", api.ErrHead},
		{"the length MaxBody, cut", with(with(x, 2, 0xf8), 3, 0x1f), "", api.ErrEnds},
		{"the length MaxBody and one", with(with(x, 2, 0xf9), 3, 0x1f), "", api.ErrHead},
		{"a byte less", x[:8], "", api.ErrEnds},
		{"a byte less, another sum", wrong[:8], "", api.ErrEnds},
		{"a byte more", append(bytes.Clone(x), 0), "", api.ErrLeft},
		{"a byte more, another sum", append(bytes.Clone(wrong), 0), "", api.ErrLeft},
		{"two frames", append(bytes.Clone(x), x...), "", api.ErrLeft},
		{"an empty one and a byte", append(frameOf(nil), 0), "", api.ErrLeft},
		{"a length of one more", with(x, 2, 2), "", api.ErrEnds},
		{"a length of one less", with(x, 2, 0), "", api.ErrLeft},
		{"another sum", wrong, "", api.ErrSum},
		{"another sum's last byte", with(x, 7, x[7]^0x80), "", api.ErrSum},
		{"another body", with(x, 8, 'y'), "", api.ErrSum},
		{"the sum of the body alone", append([]byte{0x50, 0x64, 1, 0, 0x83, 0x16, 0xdc, 0x8c}, 'x'), "", api.ErrSum},
	} {
		kept := bytes.Clone(c.b)
		body, e := Open(c.b)
		if e != c.e || string(body) != c.want || e != api.OK && body != nil {
			t.Errorf("%s: %q, %v, want %q, %v", c.what, body, e, c.want, c.e)
		}
		if !bytes.Equal(c.b, kept) {
			t.Errorf("%s: Open changed what it was given", c.what)
		}
	}
}

// P3.5: what Open says, written out once more, at all short bytes around a frame's head.
func openOf(b []byte) ([]byte, api.Errno) {
	if len(b) < 8 || b[0] != 0x50 || b[1] != 0x64 {
		return nil, api.ErrHead
	}
	n := int(b[2]) + 256*int(b[3])
	switch {
	case n > 8184:
		return nil, api.ErrHead
	case len(b) < n+8:
		return nil, api.ErrEnds
	case len(b) > n+8:
		return nil, api.ErrLeft
	case !bytes.Equal(b, frameOf(b[8:])):
		return nil, api.ErrSum
	}
	return b[8:], api.OK
}

// P3.5
func TestOpenOfAnything(t *testing.T) {
	r := rand.New(rand.NewSource(8))
	seen := make([]int, 40)
	for range 20000 {
		b := frameOf(noise(r, r.Intn(20)))
		for range r.Intn(3) {
			b[r.Intn(len(b))] = byte(r.Intn(256))
		}
		b = append(b[:len(b)-r.Intn(2)*r.Intn(len(b))], noise(r, r.Intn(2)*r.Intn(4))...)
		body, e := Open(b)
		want, fault := openOf(b)
		if e != fault || !bytes.Equal(body, want) {
			t.Fatalf("% x: % x, %v, want % x, %v", b, body, e, want, fault)
		}
		seen[int(e)]++
	}
	for _, e := range []api.Errno{api.OK, api.ErrHead, api.ErrEnds, api.ErrLeft, api.ErrSum} {
		if seen[int(e)] == 0 {
			t.Errorf("%v was never answered", e)
		}
	}
}

// P3.5, P0.1: the body is new memory.
func TestOpenedIsNew(t *testing.T) {
	f := frameOf([]byte("horse"))
	body, _ := Open(f)
	clear(body[:cap(body)])
	if got, e := Open(f); e != api.OK || string(got) != "horse" {
		t.Errorf("the frame's body is %q, %v", got, e)
	}
	body, _ = Open(f)
	clear(f)
	if string(body) != "horse" {
		t.Errorf("the body is %q", body)
	}
}

// P3.8
func TestOneByteTurned(t *testing.T) {
	r := rand.New(rand.NewSource(9))
	for _, n := range []int{0, 1, 2, 5, 40} {
		f := frameOf(noise(r, n))
		for place := range f {
			for x := range 255 {
				b := with(f, place, f[place]+byte(x+1))
				if body, e := Open(b); e == api.OK || body != nil {
					t.Errorf("the byte %d of %d is %x instead of %x: opened", place, len(f), b[place], f[place])
				}
			}
		}
	}
}

// P3.8
func TestNeighboursTurned(t *testing.T) {
	r := rand.New(rand.NewSource(10))
	for range 4000 {
		n := 1 + r.Intn(60)
		if r.Intn(20) == 0 {
			n = api.MaxBody
		}
		f := frameOf(noise(r, n))
		many := 1 + r.Intn(min(n, 4))
		from := 8 + r.Intn(n-many+1)
		b := bytes.Clone(f)
		for slices.Equal(b, f) {
			r.Read(b[from : from+many])
		}
		if _, e := Open(b); e != api.ErrSum {
			t.Errorf("%d bytes of a body of %d are others: %v", many, n, e)
		}
	}
}

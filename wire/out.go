package wire

import "math"

// pieceBytes is how many bytes an Out gathers before it puts them away.
const pieceBytes = 128

// piece is bytes that are put away. It never changes again: copies of an Out share it.
type piece struct {
	before *piece
	bytes  [pieceBytes]byte
}

// Out is bytes that are laid down. Its last ones lie in an array, not in a slice, since a copy by an assignment must not write into the same memory (P3.1).
type Out struct {
	away   *piece
	pieces int
	last   [pieceBytes]byte
	used   int // of last
}

// Put lays a number down (P3.1).
func Put[N Whole](o *Out, v N) {
	var room [8]byte
	o.lay(lowest(room[:0], uint64(v), width[N]()))
}

// Float lays a real number down (P3.1).
func (o *Out) Float(v float64) {
	bits := math.Float64bits(v)
	if math.IsNaN(v) {
		bits = oneNaN
	}
	Put(o, bits)
}

// Text lays a text down (P3.1).
func (o *Out) Text(s string) {
	s = s[:min(len(s), maxText)]
	Put(o, uint16(len(s)))
	o.lay([]byte(s))
}

// lay puts bytes behind the others.
func (o *Out) lay(b []byte) {
	if o == nil {
		return
	}
	for len(b) > 0 {
		if o.used == pieceBytes {
			o.putAway()
		}
		n := copy(o.last[o.used:], b)
		o.used += n
		b = b[n:]
	}
}

// putAway makes room for more in last.
func (o *Out) putAway() {
	o.away = &piece{o.away, o.last}
	o.pieces++
	o.used = 0
}

// Len tells how many bytes there are (P3.1).
func (o *Out) Len() int {
	if o == nil {
		return 0
	}
	return o.pieces*pieceBytes + o.used
}

// Bytes tells the bytes that are laid down (P3.1).
func (o *Out) Bytes() []byte {
	if o == nil {
		return nil
	}
	b := make([]byte, o.Len())
	at := o.pieces * pieceBytes
	copy(b[at:], o.last[:o.used])
	for p := o.away; p != nil; p = p.before {
		at -= pieceBytes
		copy(b[at:], p.bytes[:])
	}
	return b
}

package wire

import (
	"bytes"
	"math"

	"paddock/api"
)

// In is bytes that are taken off. A take that goes wrong goes nowhere, so its place is the fault's too.
type In struct {
	bytes []byte
	at    int
	fault api.Errno
}

// Read begins at the first of some bytes (P3.2).
func Read(b []byte) *In { return &In{bytes: bytes.Clone(b)} }

// ahead tells the next n bytes without going on behind them: what they say may be wrong still. False: the In is not right.
func (i *In) ahead(n int) ([]byte, bool) {
	if i == nil || i.fault != api.OK {
		return nil, false
	}
	if len(i.bytes)-i.at < n {
		i.fault = api.ErrEnds
		return nil, false
	}
	return i.bytes[i.at : i.at+n], true
}

// atMost tells the length or the count that is ahead without going on behind it. False: the In is not right.
func (i *In) atMost(most int) (int, bool) {
	b, ok := i.ahead(lengthBytes)
	if !ok {
		return 0, false
	}
	n := int(number(b))
	if n > max(most, 0) {
		i.fault = api.ErrOver
		return 0, false
	}
	return n, true
}

// Take takes a number (P3.2).
func Take[N Whole](i *In) N {
	b, ok := i.ahead(width[N]())
	if !ok {
		return 0
	}
	i.at += len(b)
	return N(number(b))
}

// Float takes a real number (P3.2).
func (i *In) Float() float64 {
	b, ok := i.ahead(8)
	if !ok {
		return 0
	}
	bits := number(b)
	v := math.Float64frombits(bits)
	if math.IsNaN(v) && bits != oneNaN {
		i.fault = api.ErrFloat
		return 0
	}
	i.at += len(b)
	return v
}

// Text takes a text of so many bytes at most (P3.2).
func (i *In) Text(most int) string {
	n, ok := i.atMost(most)
	if !ok {
		return ""
	}
	b, ok := i.ahead(lengthBytes + n)
	if !ok {
		return ""
	}
	i.at += len(b)
	return string(b[lengthBytes:])
}

// Count takes a number of 16 bits, of so many at most: of the elements of a list (P3.2).
func (i *In) Count(most int) int {
	n, ok := i.atMost(most)
	if !ok {
		return 0
	}
	i.at += lengthBytes
	return n
}

// At tells how many bytes were taken (P3.3).
func (i *In) At() int {
	if i == nil {
		return 0
	}
	return i.at
}

// Fault tells what was wrong first, and where (P3.3).
func (i *In) Fault() (int, api.Errno) {
	if i == nil {
		return 0, api.ErrNil
	}
	if i.fault == api.OK {
		return 0, api.OK
	}
	return i.at, i.fault
}

// End tells whether all was right and nothing is left (P3.3).
func (i *In) End() api.Errno {
	if _, fault := i.Fault(); fault != api.OK {
		return fault
	}
	if i.at < len(i.bytes) {
		return api.ErrLeft
	}
	return api.OK
}

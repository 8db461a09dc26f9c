package wire

import (
	"bytes"
	"iter"

	"paddock/api"
)

// A frame: its mark, its body's length, its sum, its body.
const (
	mark      = 0x6450 // the bytes 50 64
	markBytes = 2
	sumPlace  = markBytes + lengthBytes
	sumBytes  = api.FrameHead - sumPlace
)

// Frame puts a frame around a body (P3.4).
func Frame(body []byte) ([]byte, api.Errno) {
	if len(body) > api.MaxBody {
		return nil, api.ErrOver
	}
	b := make([]byte, 0, api.FrameHead+len(body))
	b = lowest(b, mark, markBytes)
	b = lowest(b, uint64(len(body)), lengthBytes)
	b = lowest(b, uint64(sum(b, body)), sumBytes)
	return append(b, body...), api.OK
}

// bodyLength is how long the body of the frame is that begins with b. False: b begins with no frame's head.
func bodyLength(b []byte) (int, bool) {
	if len(b) < api.FrameHead || number(b[:markBytes]) != mark {
		return 0, false
	}
	n := int(number(b[markBytes:sumPlace]))
	return n, n <= api.MaxBody
}

// Open takes the frame off: the body (P3.5).
func Open(b []byte) ([]byte, api.Errno) {
	n, ok := bodyLength(b)
	if !ok {
		return nil, api.ErrHead
	}
	body := b[api.FrameHead:]
	if len(body) < n {
		return nil, api.ErrEnds
	}
	if len(body) > n {
		return nil, api.ErrLeft
	}
	if number(b[sumPlace:api.FrameHead]) != uint64(sum(b[:sumPlace], body)) {
		return nil, api.ErrSum
	}
	return bytes.Clone(body), api.OK
}

// Frames finds the frames in a stream: where each begins, its body (P3.6).
func Frames(b []byte) iter.Seq2[int, []byte] {
	b = bytes.Clone(b) // what is in it later must not be told
	return func(yield func(int, []byte) bool) { walk(b, yield) }
}

// walk goes through a stream, looking for a frame at one place after the other.
func walk(b []byte, yield func(int, []byte) bool) {
	var at, n int
	var ok bool
	var body []byte
	var fault api.Errno
look:
	if at == len(b) {
		return
	}
	n, ok = bodyLength(b[at:])
	if !ok || len(b)-at < api.FrameHead+n {
		goto further
	}
	body, fault = Open(b[at : at+api.FrameHead+n])
	if fault != api.OK {
		goto further
	}
	if !yield(at, body) {
		return
	}
	at += api.FrameHead + n
	goto look
further:
	at++
	goto look
}

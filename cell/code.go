package cell

import "paddock/api"

// Code is a cell's place on the curve that goes through all (P11.5).
func Code(c api.Cell) uint64 {
	return spread(raised(c.X)) | spread(raised(c.Y))<<1
}

// Decode is the cell at a place of the curve (P11.5).
func Decode(n uint64) api.Cell {
	return api.Cell{X: lowered(gathered(n)), Y: lowered(gathered(n >> 1))}
}

// raised is a coordinate with 2^31 added, so that none is below 0 and the order stays.
func raised(n int32) uint32 { return uint32(n) + 1<<31 }

func lowered(n uint32) int32 { return int32(n - 1<<31) }

// spread moves the bits of a number apart: the bit i to the place 2i. Each step leaves groups of half as many bits, each at its place.
func spread(n uint32) uint64 {
	bits := uint64(n)
	bits |= bits << 16
	bits &= 0x0000ffff0000ffff
	bits |= bits << 8
	bits &= 0x00ff00ff00ff00ff
	bits |= bits << 4
	bits &= 0x0f0f0f0f0f0f0f0f
	bits |= bits << 2
	bits &= 0x3333333333333333
	bits |= bits << 1
	bits &= 0x5555555555555555
	return bits
}

// gathered is the number whose bits stand at the even places: what spread does, backwards.
func gathered(bits uint64) uint32 {
	bits &= 0x5555555555555555
	bits |= bits >> 1
	bits &= 0x3333333333333333
	bits |= bits >> 2
	bits &= 0x0f0f0f0f0f0f0f0f
	bits |= bits >> 4
	bits &= 0x00ff00ff00ff00ff
	bits |= bits >> 8
	bits &= 0x0000ffff0000ffff
	bits |= bits >> 16
	return uint32(bits)
}

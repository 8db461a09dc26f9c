package wire

// remainders is what each half byte, going out of a sum, leaves in it, by the polynomial edb88320.
var remainders = [16]uint32{
	0x00000000, 0x1db71064, 0x3b6e20c8, 0x26d930ac, 0x76dc4190, 0x6b6b51f4, 0x4db26158, 0x5005713c,
	0xedb88320, 0xf00f9344, 0xd6d6a3e8, 0xcb61b38c, 0x9b64c2b0, 0x86d3d2d4, 0xa00ae278, 0xbdbdf21c,
}

// Crc is the CRC-32 of some bytes (P3.4).
func Crc(b []byte) uint32 { return sum(b, nil) }

// sum is the CRC-32 of two lists of bytes, the second behind the first. (In a frame the sum itself stands between them.)
func sum(first, second []byte) uint32 {
	begun := ^uint32(0)
	return ^goOn(goOn(begun, first), second)
}

// goOn is a sum, not yet turned into its complement, with more bytes taken in.
func goOn(c uint32, b []byte) uint32 {
	for _, x := range b {
		c ^= uint32(x)
		c = c>>4 ^ remainders[c&15]
		c = c>>4 ^ remainders[c&15]
	}
	return c
}

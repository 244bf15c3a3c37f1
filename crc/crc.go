// Package crc is layer 1: check sums of what stands on the disk. See shared/doc/01-crc.md.
package crc

// poly is put to the register whenever a bit 1 goes out of it.
const poly = 0x82f63b78

// eight is the polynomial x^8, which a byte 0 multiplies the register by: the highest bit is 1, each lower one has one x more.
const eight = 0x80000000 >> 8

// halves is what four shifts make of each register of four bits: half a byte is looked up instead of being shifted out.
var halves = [16]uint32{
	0x00000000, 0x105ec76f, 0x20bd8ede, 0x30e349b1,
	0x417b1dbc, 0x5125dad3, 0x61c69362, 0x7198540d,
	0x82f63b78, 0x92a8fc17, 0xa24bb5a6, 0xb21572c9,
	0xc38d26c4, 0xd3d3e1ab, 0xe330a81a, 0xf36e6f75,
}

// Sum is the check sum of parts.
func Sum(parts ...[]byte) uint32 {
	var sum uint32
	for _, part := range parts {
		sum = Go(sum, part)
	}
	return sum
}

// Go goes on with a check sum.
func Go(sum uint32, b []byte) uint32 {
	register := ^sum
	for _, c := range b {
		register ^= uint32(c)
		for range 2 {
			register = register>>4 ^ halves[register&15]
		}
	}
	return ^register
}

// Join is the check sum of two texts.
func Join(a, b uint32, length int) uint32 {
	return noughts(a, length) ^ b
}

// noughts is the register gone on with over so many bytes 0.
func noughts(register uint32, length int) uint32 {
	// Going byte by byte would not end in any useful time for the greatest lengths: powers of two of them are squared instead.
	power := uint32(eight)
	for left := length; left > 0; left /= 2 {
		if left%2 == 1 {
			register = times(register, power)
		}
		power = times(power, power)
	}
	return register
}

// times is the rest of the product of two polynomials.
func times(a, b uint32) uint32 {
	var product uint32
	for i := range 32 {
		if a<<i&0x80000000 != 0 {
			product ^= b
		}
		b = shifted(b)
	}
	return product
}

// shifted is the register behind one shift, which multiplies it by x.
func shifted(register uint32) uint32 {
	if register&1 != 0 {
		return register>>1 ^ poly
	}
	return register >> 1
}

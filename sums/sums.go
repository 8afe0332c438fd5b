// Package sums is layer 2: sums. See shared/doc/02-sums.md.
package sums

// turned is the polynomial of the sum by 32 bits, its lowest bit for the highest power.
const turned = 0xedb88320

// Add: words more to a sum that goes round; a last byte alone is the higher one of its word.
func Add(sum uint16, b []byte) uint16 {
	for ; len(b) >= 2; b = b[2:] {
		sum = round(sum, uint16(b[0])<<8|uint16(b[1]))
	}
	if len(b) == 1 {
		sum = round(sum, uint16(b[0])<<8)
	}
	return sum
}

// Inet: the internet's sum of bytes.
func Inet(b []byte) uint16 {
	return 65535 - Add(0, b)
}

// Update: such a sum, when one word is another one.
func Update(sum, was, is uint16) uint16 {
	return 65535 - round(round(65535-sum, 65535-was), is)
}

// round: two numbers added, going round.
func round(a, b uint16) uint16 {
	n := uint32(a) + uint32(b)
	if n > 65535 {
		n -= 65535
	}
	return uint16(n)
}

// Crc: the sum by 32 bits of bytes.
func Crc(b []byte) uint32 {
	return More(0, b)
}

// More: the sum by 32 bits of more bytes behind those of a sum.
func More(sum uint32, b []byte) uint32 {
	reg := ^sum
	for _, x := range b {
		// All eight bits go in at once: a bit above the lowest one is asked only when it has come down there.
		reg ^= uint32(x)
		for range 8 {
			reg = reg>>1 ^ turned&-(reg&1)
		}
	}
	return ^reg
}

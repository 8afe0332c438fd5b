package hash

import "math/bits"

// wordSize is how many bytes go in at once.
const wordSize = 8

// state is the four numbers that words of bytes go into.
type state [4]uint64

// Sip: of bytes, by a key of two numbers.
func Sip(k0, k1 uint64, b []byte) uint64 {
	v := state{k0 ^ 0x736f6d6570736575, k1 ^ 0x646f72616e646f6d, k0 ^ 0x6c7967656e657261, k1 ^ 0x7465646279746573}
	size := uint64(len(b))
	for ; len(b) >= wordSize; b = b[wordSize:] {
		v.take(word(b[:wordSize]))
	}
	v.take(size<<56 | word(b))
	v[2] ^= 0xff
	v.rounds(4)
	return v[0] ^ v[1] ^ v[2] ^ v[3]
}

// word: eight bytes at most as a number, the first one the lowest.
func word(b []byte) uint64 {
	var m uint64
	for i, x := range b {
		m |= uint64(x) << (8 * i)
	}
	return m
}

// take: a word more.
func (v *state) take(m uint64) {
	v[3] ^= m
	v.rounds(2)
	v[0] ^= m
}

// rounds: so many of them.
func (v *state) rounds(n int) {
	for range n {
		v.step(0, 1, 13)
		v[0] = bits.RotateLeft64(v[0], 32)
		v.step(2, 3, 16)
		v.step(0, 3, 21)
		v.step(2, 1, 17)
		v[2] = bits.RotateLeft64(v[2], 32)
	}
}

// step: the number i and the number j together, and j turned, with its bits turned by i's.
func (v *state) step(i, j, turn int) {
	v[i] += v[j]
	v[j] = bits.RotateLeft64(v[j], turn) ^ v[i]
}

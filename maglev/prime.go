package maglev

import "math/bits"

// Prime: is a number one? Asked by bases (Miller, Rabin), as to divide by all numbers would take too long of great ones; by these twelve no number of 64 bits passes for what it is not.
func Prime(n int) bool {
	if n < 2 {
		return false
	}
	m := uint64(n)
	for _, base := range [...]uint64{2, 3, 5, 7, 11, 13, 17, 19, 23, 29, 31, 37} {
		if m%base == 0 {
			return m == base
		}
		if !passes(m, base) {
			return false
		}
	}
	return true
}

// passes: does an odd number behave by this base as a prime one does?
func passes(n, base uint64) bool {
	exp := (n - 1) >> bits.TrailingZeros64(n-1)
	x := power(base, exp, n)
	if x == 1 {
		return true
	}
	for ; exp < n-1; exp *= 2 {
		if x == n-1 {
			return true
		}
		x = times(x, x, n)
	}
	return false
}

// power: what is left of x, exp times by itself, by n.
func power(x, exp, n uint64) uint64 {
	p := uint64(1)
	for ; exp > 0; exp /= 2 {
		if exp%2 == 1 {
			p = times(p, x, n)
		}
		x = times(x, x, n)
	}
	return p
}

// times: what is left of a times b by n, though the product may have 128 bits.
func times(a, b, n uint64) uint64 {
	high, low := bits.Mul64(a, b)
	return bits.Rem64(high, low, n)
}

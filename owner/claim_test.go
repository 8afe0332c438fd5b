package owner

import (
	"math"
	"slices"
	"testing"
)

// TestAlike: of two claims with the same number the lesser replica goes first. No two replicas have the same number for anything, so this can't be seen from outside.
func TestAlike(t *testing.T) {
	for _, number := range []uint64{0, 1, 1 << 63, math.MaxUint64} {
		claims := []claim{{15, number}, {0, number}, {7, number}, {1, number}}
		var ranked [4]int
		for _, c := range claims {
			ranked[count(claims, c.behind)] = c.replica
		}
		if ranked != [4]int{0, 1, 7, 15} {
			t.Errorf("of the number %x: %v", number, ranked)
		}
	}
}

// TestBehind: claims in the order in which they go, each behind all ahead of it and no other one.
func TestBehind(t *testing.T) {
	l := []claim{{9, math.MaxUint64}, {3, 1 << 63}, {4, 1 << 63}, {0, 1<<63 - 1}, {15, 2}, {2, 1}, {0, 0}, {1, 0}}
	for i, c := range l {
		for j, d := range l {
			if c.behind(d) != (i > j) {
				t.Errorf("%v behind %v: %t", c, d, c.behind(d))
			}
		}
		if n := count(l, c.behind); n != i {
			t.Errorf("%v is behind %d, want %d", c, n, i)
		}
	}
	turned := slices.Clone(l)
	slices.Reverse(turned)
	for i, c := range l {
		if n := count(turned, c.behind); n != i {
			t.Errorf("%v is behind %d of them turned, want %d", c, n, i)
		}
	}
}

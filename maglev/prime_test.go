package maglev_test

import (
	"math"
	"math/big"
	"math/rand"
	"testing"

	"steelyard/maglev"
)

// divided: is n a prime number, asked by all that might divide it?
func divided(n int) bool {
	for d := 2; d*d <= n; d++ {
		if n%d == 0 {
			return false
		}
	}
	return n > 1
}

func TestPrime(t *testing.T) {
	for n := -100; n < 20000; n++ {
		if is := maglev.Prime(n); is != divided(n) {
			t.Errorf("Prime(%d) = %v", n, is)
		}
	}
}

func TestPrimeOfGreatNumbers(t *testing.T) {
	for _, c := range []struct {
		n    int
		want bool
	}{
		{math.MinInt, false},
		{math.MinInt + 1, false},
		{-7, false},
		{math.MaxInt, false},
		{math.MaxInt - 24, true}, // the greatest one there is
		{math.MaxInt - 23, false},
		{1<<61 - 1, true},
		{1<<31 - 1, true},
		{(1<<31 - 1) * (1<<31 - 1), false},
		{(1<<31 - 1) * (1<<31 - 19), false},
		{3037000493 * 3037000493, false}, // the greatest square of a prime one
		{4294967291, true},
		{1 << 62, false},
		{561, false}, // these pass for prime ones by some bases, and are not
		{2047, false},
		{1373653, false},
		{25326001, false},
		{3215031751, false},
		{2152302898747, false},
		{3474749660383, false},
		{341550071728321, false},
		{3825123056546413051, false},
	} {
		if is := maglev.Prime(c.n); is != c.want {
			t.Errorf("Prime(%d) = %v", c.n, is)
		}
	}
}

// likely: does n pass by many bases? For numbers of 64 bits the library's answer is sure.
func likely(n int) bool {
	return n > 0 && big.NewInt(int64(n)).ProbablyPrime(0)
}

func TestPrimeByChance(t *testing.T) {
	rnd := rand.New(rand.NewSource(1))
	prime := 0
	for range 20000 {
		n := int(rnd.Int63() >> rnd.Intn(63))
		if maglev.Prime(n) {
			prime++
		}
		if maglev.Prime(n) != likely(n) {
			t.Fatalf("Prime(%d) = %v", n, maglev.Prime(n))
		}
	}
	if prime < 500 {
		t.Errorf("only %d were prime", prime)
	}
}

// FuzzPrime: any number ends with the library's answer.
func FuzzPrime(f *testing.F) {
	for _, n := range []int{-1, 0, 1, 2, 1021, 1022, math.MaxInt, math.MinInt} {
		f.Add(n)
	}
	f.Fuzz(func(t *testing.T, n int) {
		if maglev.Prime(n) != likely(n) {
			t.Fatalf("Prime(%d) = %v", n, maglev.Prime(n))
		}
	})
}

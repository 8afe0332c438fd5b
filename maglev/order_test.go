package maglev_test

import (
	"math"
	"slices"
	"testing"

	"steelyard/api"
	"steelyard/hash"
	"steelyard/maglev"
)

// primes: how many slots there may be.
func primes() []int {
	var l []int
	for n := 2; n <= 1021; n++ {
		if divided(n) {
			l = append(l, n)
		}
	}
	return l
}

// noPrimes: how many slots there may not be.
func noPrimes() []int {
	return []int{math.MinInt, -7, -2, -1, 0, 1, 4, 6, 9, 961, 1020, 1022, 1023, 1031, 4093, 65537, 1<<31 - 1, 1<<61 - 1, math.MaxInt}
}

// noIds: numbers that are no entry's.
func noIds() []int {
	return []int{math.MinInt, -32, -1, 32, 33, 64, 256, 1 << 32, math.MaxInt}
}

func TestOrder(t *testing.T) {
	for _, c := range []struct {
		id, slots int
		want      []int
	}{
		{0, 7, []int{1, 0, 6, 5, 4, 3, 2}},
		{1, 7, []int{1, 0, 6, 5, 4, 3, 2}},
		{31, 7, []int{3, 2, 1, 0, 6, 5, 4}},
		{0, 2, []int{1, 0}}, // the rest by 1 is 0, and the step 1
		{5, 2, []int{0, 1}},
		{0, 3, []int{0, 2, 1}},
		{2, 13, []int{5, 3, 1, 12, 10, 8, 6, 4, 2, 0, 11, 9, 7}},
	} {
		if l, e := maglev.Order(c.id, c.slots); !slices.Equal(l, c.want) || e != api.OK {
			t.Errorf("Order(%d, %d) = %v, %d, want %v", c.id, c.slots, l, e, c.want)
		}
	}
	for _, c := range []struct {
		id    int
		first []int
		last  int
	}{
		{0, []int{453, 398, 343, 288, 233}, 508},
		{31, []int{130, 21, 933, 824, 715}, 239},
	} {
		l, e := maglev.Order(c.id, api.MaxSlots)
		if len(l) != 1021 || !slices.Equal(l[:5], c.first) || l[1020] != c.last || e != api.OK {
			t.Errorf("Order(%d, %d) = %v, %d", c.id, api.MaxSlots, l, e)
		}
	}
}

// plainOrder is Order by the document's words: each slot is so many steps behind the first one, reckoned by itself.
func plainOrder(id, slots int) []int {
	begin := hash.Pair(1, 0, uint64(id)) % uint64(slots)
	step := 1 + hash.Pair(2, 0, uint64(id))%uint64(slots-1)
	var l []int
	for i := range uint64(slots) {
		l = append(l, int((begin+i*step)%uint64(slots)))
	}
	return l
}

// TestAllOrders: of each entry and each number of slots that can be, and each has each slot once.
func TestAllOrders(t *testing.T) {
	for _, slots := range primes() {
		for id := range api.MaxBackends {
			l, e := maglev.Order(id, slots)
			if !slices.Equal(l, plainOrder(id, slots)) || e != api.OK {
				t.Fatalf("Order(%d, %d) = %v, %d", id, slots, l, e)
			}
			slices.Sort(l)
			for i, x := range l {
				if x != i {
					t.Fatalf("Order(%d, %d) hasn't each slot once", id, slots)
				}
			}
		}
	}
}

func TestNoOrder(t *testing.T) {
	refused := func(id, slots int) {
		t.Helper()
		if l, e := maglev.Order(id, slots); len(l) != 0 || e != api.ErrArg {
			t.Errorf("Order(%d, %d) = %v, %d", id, slots, l, e)
		}
	}
	for _, slots := range noPrimes() {
		for _, id := range append(noIds(), 0, 31) {
			refused(id, slots)
		}
	}
	for _, id := range noIds() {
		for _, slots := range primes() {
			refused(id, slots)
		}
	}
}

// TestOrdersShareNothing: what is written into an order, or behind it, no later one has.
func TestOrdersShareNothing(t *testing.T) {
	a, _ := maglev.Order(0, 7)
	b, _ := maglev.Order(0, 7)
	_ = append(a, 9, 9)
	clear(a[:cap(a)])
	if c, _ := maglev.Order(0, 7); !slices.Equal(b, c) || !slices.Equal(b, []int{1, 0, 6, 5, 4, 3, 2}) {
		t.Errorf("%v, %v", b, c)
	}
}

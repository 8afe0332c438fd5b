package tuple_test

import (
	"math"
	"math/big"
	"math/rand"
	"testing"

	"steelyard/api"
	"steelyard/tuple"
)

// wrongKinds: numbers that are of no kind.
func wrongKinds() []int {
	return []int{math.MinInt, -tuple.Kinds, -1, tuple.Kinds, tuple.Kinds + 1, 2 * tuple.Kinds, 256, 1 << 32, math.MaxInt}
}

// has fails unless each kind has that number, and they that total.
func has(t *testing.T, c *tuple.Counts, total uint64, want [tuple.Kinds]uint64) {
	t.Helper()
	var got [tuple.Kinds]uint64
	for kind := range got {
		got[kind] = c.Get(kind)
	}
	if got != want || c.Total() != total {
		t.Errorf("%v, %d together; want %v, %d", got, c.Total(), want, total)
	}
}

func add(t *testing.T, c *tuple.Counts, kind int, n uint64, want api.Errno) {
	t.Helper()
	if e := c.Add(kind, n); e != want {
		t.Errorf("Add(%d, %d) = %d, want %d", kind, n, e, want)
	}
}

func TestKinds(t *testing.T) {
	if tuple.Kinds != 12 {
		t.Errorf("%d kinds", tuple.Kinds)
	}
}

func TestCounts(t *testing.T) {
	c := tuple.New(10)
	has(t, c, 0, [tuple.Kinds]uint64{})
	add(t, c, 3, 7, api.OK)
	has(t, c, 7, [tuple.Kinds]uint64{3: 7})
	add(t, c, 3, 7, api.OK)
	has(t, c, 10, [tuple.Kinds]uint64{3: 10})
	for kind := range tuple.Kinds {
		add(t, c, kind, uint64(kind), api.OK)
	}
	has(t, c, 72, [tuple.Kinds]uint64{0, 1, 2, 10, 4, 5, 6, 7, 8, 9, 10, 10})
	add(t, c, 0, 0, api.OK)
	add(t, c, 11, 0, api.OK)
	has(t, c, 72, [tuple.Kinds]uint64{0, 1, 2, 10, 4, 5, 6, 7, 8, 9, 10, 10})
}

// TestCountsOfAnotherKind: what is refused changes nothing, also where a number stands at its most.
func TestCountsOfAnotherKind(t *testing.T) {
	for _, most := range []uint64{0, 10, math.MaxUint64} {
		c := tuple.New(most)
		add(t, c, 0, 4, api.OK)
		add(t, c, tuple.Kinds-1, 5, api.OK)
		want := [tuple.Kinds]uint64{0: min(4, most), tuple.Kinds - 1: min(5, most)}
		for _, kind := range wrongKinds() {
			for _, n := range []uint64{0, 1, math.MaxUint64} {
				add(t, c, kind, n, api.ErrArg)
			}
			if n := c.Get(kind); n != 0 {
				t.Errorf("Get(%d) = %d", kind, n)
			}
		}
		has(t, c, want[0]+want[tuple.Kinds-1], want)
	}
}

func TestCountsAtTheMost(t *testing.T) {
	for _, most := range []uint64{0, 1, 2, 1<<32 - 1, 1 << 63, math.MaxUint64 - 1, math.MaxUint64} {
		for _, c := range []struct{ first, second, want uint64 }{
			{0, most, most},
			{most, 0, most},
			{most, 1, most},
			{most, most, most},
			{most, math.MaxUint64, most},
			{math.MaxUint64, math.MaxUint64, most},
			{1, math.MaxUint64, most},
			{most / 2, most - most/2, most},
			{most / 2, most - most/2 + 1, most},
			{most / 2, 0, most / 2},
		} {
			x := tuple.New(most)
			add(t, x, 5, c.first, api.OK)
			add(t, x, 5, c.second, api.OK)
			has(t, x, c.want, [tuple.Kinds]uint64{5: c.want})
		}
	}
}

func TestTotal(t *testing.T) {
	for _, c := range []struct {
		name    string
		numbers [3]uint64
		want    uint64
	}{
		{"the greatest", [3]uint64{math.MaxUint64 - 3, 1, 2}, math.MaxUint64},
		{"one less", [3]uint64{math.MaxUint64 - 4, 1, 2}, math.MaxUint64 - 1},
		{"one more", [3]uint64{math.MaxUint64 - 2, 1, 2}, math.MaxUint64},
		{"two halves", [3]uint64{1 << 63, 1 << 63, 0}, math.MaxUint64},
		{"two halves, and more", [3]uint64{1 << 63, 1 << 63, 5}, math.MaxUint64},
		{"all the greatest", [3]uint64{math.MaxUint64, math.MaxUint64, math.MaxUint64}, math.MaxUint64},
		{"the last one goes above", [3]uint64{1, 2, math.MaxUint64}, math.MaxUint64},
	} {
		x := tuple.New(math.MaxUint64)
		add(t, x, 0, c.numbers[0], api.OK)
		add(t, x, 6, c.numbers[1], api.OK)
		add(t, x, tuple.Kinds-1, c.numbers[2], api.OK)
		if n := x.Total(); n != c.want {
			t.Errorf("%s: Total = %d, want %d", c.name, n, c.want)
		}
	}
	x := tuple.New(10) // the most is one of each number, not of them all
	for kind := range tuple.Kinds {
		add(t, x, kind, 10, api.OK)
	}
	if n := x.Total(); n != 120 {
		t.Errorf("Total = %d", n)
	}
}

func TestCopyOfCounts(t *testing.T) {
	c := tuple.New(10)
	add(t, c, 2, 4, api.OK)
	d := c.Copy()
	has(t, d, 4, [tuple.Kinds]uint64{2: 4})
	add(t, c, 2, 1, api.OK)
	add(t, c, 3, 1, api.OK)
	add(t, d, 4, 99, api.OK) // it has the most of what it is a copy of
	has(t, c, 6, [tuple.Kinds]uint64{2: 5, 3: 1})
	has(t, d, 14, [tuple.Kinds]uint64{2: 4, 4: 10})
}

func TestCountsOfNil(t *testing.T) {
	var c *tuple.Counts
	for _, kind := range append(wrongKinds(), 0, 1, tuple.Kinds-1) { // ErrNil goes ahead of ErrArg
		add(t, c, kind, 1, api.ErrNil)
		if n := c.Get(kind); n != 0 {
			t.Errorf("Get(%d) = %d", kind, n)
		}
	}
	if n, d := c.Total(), c.Copy(); n != 0 || d != nil {
		t.Errorf("Total = %d, Copy = %v", n, d)
	}
}

// TestCountsNeverFall is P6.5: held against numbers without a limit; what is added in two steps is as added in one.
func TestCountsNeverFall(t *testing.T) {
	rnd := rand.New(rand.NewSource(3))
	for range 300 {
		most := rnd.Uint64() >> rnd.Intn(64)
		one, two := tuple.New(most), tuple.New(most)
		var want [tuple.Kinds]uint64
		for range 30 {
			kind, n := rnd.Intn(tuple.Kinds), rnd.Uint64()>>rnd.Intn(64)
			before := one.Get(kind)
			add(t, one, kind, n, api.OK)
			if one.Get(kind) < before {
				t.Fatalf("behind Add(%d, %d): %d falls to %d", kind, n, before, one.Get(kind))
			}
			part := n / (1 + uint64(rnd.Intn(4)))
			add(t, two, kind, part, api.OK)
			add(t, two, kind, n-part, api.OK)
			want[kind] = lesser(most, want[kind], n)
		}
		total := lesser(math.MaxUint64, want[:]...)
		has(t, one, total, want)
		has(t, two, total, want)
	}
}

// lesser: the lesser of most and all numbers together.
func lesser(most uint64, l ...uint64) uint64 {
	all, top := new(big.Int), new(big.Int).SetUint64(most)
	for _, n := range l {
		all.Add(all, new(big.Int).SetUint64(n))
	}
	if all.Cmp(top) > 0 {
		all = top
	}
	return all.Uint64()
}

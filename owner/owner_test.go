package owner_test

import (
	"math"
	"math/bits"
	"math/rand"
	"slices"
	"testing"

	"steelyard/api"
	"steelyard/hash"
	"steelyard/owner"
)

const most = math.MaxUint64

// all: all replicas there may be.
func all() []int {
	return []int{0, 1, 2, 3, 4, 5, 6, 7, 8, 9, 10, 11, 12, 13, 14, 15}
}

// numbers: some to be owned, at ends and by chance.
func numbers(rnd *rand.Rand, n int) []uint64 {
	l := []uint64{0, 1, 2, 15, 16, 1<<32 - 1, 1<<63 - 1, 1 << 63, most - 1, most}
	for range n {
		l = append(l, rnd.Uint64())
	}
	return l
}

// plainRank is Rank by the document's words: the first one is taken out, again and again.
func plainRank(l []int, h uint64) []int {
	left := slices.Clone(l)
	var ranked []int
	for len(left) > 0 {
		best := 0
		for i := range left {
			if hash.Pair(3, uint64(left[i]), h) > hash.Pair(3, uint64(left[best]), h) {
				best = i
			}
		}
		ranked = append(ranked, left[best])
		left = slices.Delete(left, best, best+1)
	}
	return ranked
}

func TestRank(t *testing.T) {
	for _, c := range []struct {
		l    []int
		h    uint64
		want []int
	}{
		{nil, 0, nil},
		{[]int{}, most, nil},
		{[]int{5}, 0, []int{5}}, // the document's example
		{[]int{0}, most, []int{0}},
		{[]int{15}, 1, []int{15}},
		{[]int{0, 1}, 0, []int{1, 0}},
		{[]int{0, 1}, 1, []int{0, 1}},
		{[]int{0, 1, 2}, 0, []int{1, 0, 2}},
		{[]int{0, 1, 2}, 7, []int{1, 0, 2}},
		{[]int{0, 1, 2, 3, 4}, 1 << 63, []int{3, 4, 1, 2, 0}},
		{[]int{3, 7, 15}, most, []int{3, 7, 15}},
		{[]int{1, 2, 4, 8, 15}, 12345, []int{15, 8, 1, 4, 2}},
		{all(), 0, []int{7, 10, 11, 14, 12, 13, 4, 5, 1, 0, 15, 6, 2, 3, 8, 9}},
		{all(), most, []int{6, 5, 13, 3, 10, 11, 2, 8, 14, 7, 1, 15, 12, 4, 0, 9}},
		{all(), 0xb4c8432afe55ad07, []int{7, 15, 10, 4, 11, 14, 1, 13, 5, 6, 8, 12, 2, 9, 0, 3}},
	} {
		if l, e := owner.Rank(c.l, c.h); !slices.Equal(l, c.want) || e != api.OK {
			t.Errorf("Rank(%v, %x) = %v, %d, want %v", c.l, c.h, l, e, c.want)
		}
		who, e := owner.Of(c.l, c.h)
		if len(c.want) == 0 {
			if who != 0 || e != api.ErrNone {
				t.Errorf("Of(%v, %x) = %d, %d", c.l, c.h, who, e)
			}
		} else if who != c.want[0] || e != api.OK {
			t.Errorf("Of(%v, %x) = %d, %d, want %d", c.l, c.h, who, e, c.want[0])
		}
	}
}

// ranked fails unless Rank and Of answer as the plain one does.
func ranked(t *testing.T, l []int, h uint64) {
	t.Helper()
	want := plainRank(l, h)
	if got, e := owner.Rank(l, h); !slices.Equal(got, want) || e != api.OK {
		t.Fatalf("Rank(%v, %x) = %v, %d, want %v", l, h, got, e, want)
	}
	who, e := owner.Of(l, h)
	if len(want) == 0 && (who != 0 || e != api.ErrNone) || len(want) > 0 && (who != want[0] || e != api.OK) {
		t.Fatalf("Of(%v, %x) = %d, %d, of %v", l, h, who, e, want)
	}
}

// members: the replicas whose bits a mask has.
func members(mask int) []int {
	var l []int
	for i := 0; mask>>i > 0; i++ {
		if mask&(1<<i) != 0 {
			l = append(l, i)
		}
	}
	return l
}

// TestRankByChance holds Rank and Of against the plain one.
func TestRankByChance(t *testing.T) {
	rnd := rand.New(rand.NewSource(1))
	for _, h := range numbers(rnd, 3000) {
		ranked(t, members(rnd.Intn(1<<16)), h)
		ranked(t, all(), h)
		ranked(t, []int{rnd.Intn(16)}, h)
	}
}

// wrongLists: those that can't be.
func wrongLists() [][]int {
	return [][]int{
		{-1}, {16}, {17}, {255}, {math.MinInt}, {math.MaxInt}, {1 << 32}, {1<<32 + 3},
		{0, 16}, {-1, 0}, {3, -1}, {16, 3}, {0, 1, math.MaxInt}, {math.MinInt, 0},
		{3, 3}, {0, 0}, {15, 15}, {3, 2}, {1, 0}, {15, 0}, {0, 2, 2}, {0, 2, 1}, {2, 0, 1}, {0, 1, 2, 3, 0},
		append(all(), 15), append(all(), 16), append(all(), 0), append([]int{0}, all()...), append([]int{-1}, all()...),
		make([]int, 2), make([]int, 17), make([]int, 100000),
	}
}

func TestWrongLists(t *testing.T) {
	for _, l := range wrongLists() {
		for _, h := range []uint64{0, 1, most} {
			if got, e := owner.Rank(l, h); len(got) != 0 || e != api.ErrArg {
				t.Errorf("Rank of %d, %v = %v, %d", len(l), l[:min(len(l), 20)], got, e)
			}
			if who, e := owner.Of(l, h); who != 0 || e != api.ErrArg {
				t.Errorf("Of of %d = %d, %d", len(l), who, e)
			}
		}
		if mask, e := owner.Mask(l); mask != 0 || e != api.ErrArg {
			t.Errorf("Mask of %d = %d, %d", len(l), mask, e)
		}
	}
}

// TestWithoutOne is P11.3: of each list each one is taken out.
func TestWithoutOne(t *testing.T) {
	rnd := rand.New(rand.NewSource(2))
	for _, h := range numbers(rnd, 500) {
		l := members(1 + rnd.Intn(1<<16-1))
		rank, _ := owner.Rank(l, h)
		for i, out := range l {
			less := slices.Delete(slices.Clone(l), i, i+1)
			who, e := owner.Of(less, h)
			switch {
			case len(less) == 0:
				if who != 0 || e != api.ErrNone {
					t.Fatalf("Of(%v, %x) = %d, %d", less, h, who, e)
				}
			case out == rank[0]:
				if who != rank[1] || e != api.OK {
					t.Fatalf("Of(%v, %x) without %d = %d, %d, the rank is %v", less, h, out, who, e, rank)
				}
			default:
				if who != rank[0] || e != api.OK {
					t.Fatalf("Of(%v, %x) without %d = %d, %d, the rank is %v", less, h, out, who, e, rank)
				}
			}
			want := slices.DeleteFunc(slices.Clone(rank), func(n int) bool { return n == out })
			if got, e := owner.Rank(less, h); !slices.Equal(got, want) || e != api.OK {
				t.Fatalf("Rank(%v, %x) = %v, %d, want %v", less, h, got, e, want)
			}
		}
	}
}

// TestOneMore is P11.3: one more is the owner, or changes it not.
func TestOneMore(t *testing.T) {
	rnd := rand.New(rand.NewSource(3))
	changed, kept := 0, 0
	for _, h := range numbers(rnd, 1000) {
		l := members(1 + rnd.Intn(1<<16-1))
		was, _ := owner.Of(l, h)
		for more := range 16 {
			if slices.Contains(l, more) {
				continue
			}
			grown := append(slices.Clone(l), more)
			slices.Sort(grown)
			who, e := owner.Of(grown, h)
			if who != was && who != more || e != api.OK {
				t.Fatalf("Of(%v, %x) = %d, of %v %d, %d", l, h, was, grown, who, e)
			}
			if who == was {
				kept++
			} else {
				changed++
			}
		}
	}
	if changed < 100 || kept < 100 {
		t.Errorf("only %d changed, %d did not", changed, kept)
	}
}

// TestEachOwnsSome: no replica of few owns much more than another one.
func TestEachOwnsSome(t *testing.T) {
	rnd := rand.New(rand.NewSource(4))
	var owned [16]int
	for range 16000 {
		who, _ := owner.Of(all(), rnd.Uint64())
		owned[who]++
	}
	for i, n := range owned {
		if n < 800 || n > 1200 {
			t.Errorf("%d owns %d of 16000", i, n)
		}
	}
}

func TestMask(t *testing.T) {
	for _, c := range []struct {
		l    []int
		want int
	}{
		{nil, 0},
		{[]int{}, 0},
		{[]int{0, 2}, 5}, // the document's example
		{[]int{0}, 1},
		{[]int{1}, 2},
		{[]int{15}, 32768},
		{[]int{0, 15}, 32769},
		{[]int{1, 3, 5}, 42},
		{all(), 65535},
	} {
		if mask, e := owner.Mask(c.l); mask != c.want || e != api.OK {
			t.Errorf("Mask(%v) = %d, %d, want %d", c.l, mask, e, c.want)
		}
		if l, e := owner.List(c.want); !slices.Equal(l, c.l) || e != api.OK {
			t.Errorf("List(%d) = %v, %d, want %v", c.want, l, e, c.l)
		}
	}
}

func TestListOfOtherNumbers(t *testing.T) {
	for _, mask := range []int{-1, -2, -65535, -65536, 65536, 65537, 1 << 17, 1<<32 | 1, 1 << 62, math.MinInt, math.MaxInt} {
		if l, e := owner.List(mask); len(l) != 0 || e != api.ErrArg {
			t.Errorf("List(%d) = %v, %d", mask, l, e)
		}
	}
}

// TestListAndMask is P11.4, and P6: of all masks there are, so of all lists, too.
func TestListAndMask(t *testing.T) {
	for mask := range 1 << 16 {
		l, e := owner.List(mask)
		if len(l) != bits.OnesCount(uint(mask)) || !slices.Equal(l, members(mask)) || e != api.OK {
			t.Fatalf("List(%d) = %v, %d", mask, l, e)
		}
		if back, e := owner.Mask(l); back != mask || e != api.OK {
			t.Fatalf("Mask(List(%d)) = %d, %d", mask, back, e)
		}
	}
}

// TestListsShareNothing: what is handed in isn't changed, and no list that is answered shares memory with another one.
func TestListsShareNothing(t *testing.T) {
	given := all()
	a, _ := owner.Rank(given, 7)
	b, _ := owner.Rank(given, 7)
	owner.Of(given, 7)
	owner.Mask(given)
	if !slices.Equal(given, all()) {
		t.Fatalf("what was given is %v", given)
	}
	clear(given)
	_ = append(a, 1)
	clear(a[:cap(a)])
	if !slices.Equal(b, plainRank(all(), 7)) {
		t.Errorf("behind changes: %v", b)
	}
	x, _ := owner.List(0x8005)
	y, _ := owner.List(0x8005)
	_ = append(x, 9)
	clear(x[:cap(x)])
	if z, _ := owner.List(0x8005); !slices.Equal(y, []int{0, 2, 15}) || !slices.Equal(z, y) {
		t.Errorf("behind changes: %v, %v", y, z)
	}
}

// FuzzOwner: any lists and numbers end with what the plain one has, or ErrArg.
func FuzzOwner(f *testing.F) {
	f.Add(0, 1, 2, uint64(7), 5)
	f.Add(15, 15, 0, uint64(0), -1)
	f.Add(-1, 3, 16, uint64(most), 65536)
	f.Fuzz(func(t *testing.T, i, j, k int, h uint64, mask int) {
		l := []int{i, j, k}
		if 0 <= i && i < j && j < k && k < 16 {
			ranked(t, l, h)
			if m, e := owner.Mask(l); m != 1<<i|1<<j|1<<k || e != api.OK {
				t.Fatalf("Mask(%v) = %d, %d", l, m, e)
			}
		} else if got, e := owner.Rank(l, h); len(got) != 0 || e != api.ErrArg {
			t.Fatalf("Rank(%v, %x) = %v, %d", l, h, got, e)
		}
		got, e := owner.List(mask)
		if mask < 0 || mask > 65535 {
			if len(got) != 0 || e != api.ErrArg {
				t.Fatalf("List(%d) = %v, %d", mask, got, e)
			}
		} else if !slices.Equal(got, members(mask)) || e != api.OK {
			t.Fatalf("List(%d) = %v, %d", mask, got, e)
		}
	})
}

package maglev_test

import (
	"math"
	"math/rand"
	"slices"
	"testing"

	"steelyard/api"
	"steelyard/maglev"
	"steelyard/weight"
)

type entries = []maglev.Entry

func nan() float64 { return math.NaN() }
func inf() float64 { return math.Inf(1) }

// nothing: weights that count for nothing.
func nothing() []float64 {
	return []float64{0, math.Copysign(0, -1), -1, -math.MaxFloat64, -math.SmallestNonzeroFloat64, math.Inf(-1), nan(), math.Float64frombits(0xfff0 << 48), math.Float64frombits(0x7ff0<<48 | 1)}
}

func TestBuild(t *testing.T) {
	for _, c := range []struct {
		l     entries
		slots int
		want  []int
	}{
		{entries{{0, 1}, {1, 1}}, 7, []int{1, 0, 0, 1, 0, 1, 0}}, // the document's example
		{entries{{0, 1}, {1, 1}}, 2, []int{1, 0}},
		{entries{{0, 1}, {1, 1}}, 3, []int{0, 1, 0}},
		{entries{{0, 1}, {1, 1}, {2, 1}}, 2, []int{1, 0}}, // more entries than slots: the last one has none
		{entries{{3, 1}}, 5, []int{3, 3, 3, 3, 3}},
		{entries{{0, 2}, {1, 1}, {2, 0}, {3, nan()}}, 13, []int{0, 0, 1, 0, 1, 0, 0, 1, 0, 0, 0, 0, 1}},
		{entries{{2, 1}, {5, inf()}}, 11, []int{5, 5, 5, 5, 5, 5, 5, 5, 5, 5, 5}},
		{entries{{0, 3}, {4, 1}, {31, 2}}, 23, []int{31, 31, 31, 31, 0, 4, 0, 31, 0, 0, 0, 4, 31, 31, 0, 0, 0, 4, 0, 4, 0, 0, 0}},
		{entries{{1, nan()}, {2, -1}, {3, 0.5}}, 7, []int{3, 3, 3, 3, 3, 3, 3}},
		{entries{{0, math.SmallestNonzeroFloat64}, {1, inf()}}, 7, []int{1, 1, 1, 1, 1, 1, 1}}, // it counts, but its part is 0
		{entries{{0, math.MaxFloat64}, {1, inf()}}, 3, []int{0, 1, 0}},
	} {
		if table, e := maglev.Build(c.l, c.slots); !slices.Equal(table, c.want) || e != api.OK {
			t.Errorf("Build(%v, %d) = %v, %d, want %v", c.l, c.slots, table, e, c.want)
		}
	}
}

// weights: those of entries.
func weights(l entries) []float64 {
	var w []float64
	for _, x := range l {
		w = append(w, x.Weight)
	}
	return w
}

// plainBuild is Build by the document's words: each turn goes through the whole order from its first slot on.
func plainBuild(l entries, slots int) []int {
	table := map[int]int{}
	for _, i := range weight.Turns(weights(l), slots) {
		for _, slot := range plainOrder(l[i].Id, slots) {
			if _, ok := table[slot]; !ok {
				table[slot] = l[i].Id
				break
			}
		}
	}
	var all []int
	for slot := range slots {
		if id, ok := table[slot]; ok {
			all = append(all, id)
		}
	}
	return all
}

// someWeight: a weight by chance, odd ones and alike ones not rare.
func someWeight(rnd *rand.Rand) float64 {
	switch rnd.Intn(8) {
	case 0:
		return math.Float64frombits(rnd.Uint64())
	case 1:
		l := append(nothing(), inf(), math.MaxFloat64, math.SmallestNonzeroFloat64)
		return l[rnd.Intn(len(l))]
	case 2, 3, 4:
		return float64(rnd.Intn(4))
	}
	return 10 * rnd.Float64()
}

// someEntries: entries by chance that can be.
func someEntries(rnd *rand.Rand) entries {
	var l entries
	often := 1 + rnd.Intn(8)
	for id := range api.MaxBackends {
		if rnd.Intn(often) == 0 {
			l = append(l, maglev.Entry{Id: id, Weight: someWeight(rnd)})
		}
	}
	return l
}

// TestBuildByChance holds Build against the plain one, and is P10.4.
func TestBuildByChance(t *testing.T) {
	rnd := rand.New(rand.NewSource(2))
	all := primes()
	for range 400 {
		l, slots := someEntries(rnd), all[rnd.Intn(len(all))]
		if rnd.Intn(2) == 0 {
			slots = all[rnd.Intn(12)]
		}
		table, e := maglev.Build(l, slots)
		if weight.Best(weights(l)) == 0 {
			if len(table) != 0 || e != api.ErrNone {
				t.Fatalf("Build(%v, %d) = %v, %d", l, slots, table, e)
			}
			continue
		}
		if !slices.Equal(table, plainBuild(l, slots)) || len(table) != slots || e != api.OK {
			t.Fatalf("Build(%v, %d) = %v, %d, want %v", l, slots, table, e, plainBuild(l, slots))
		}
		fair(t, l, table)
	}
}

// fair fails unless each entry holds as many slots as its share, and nobody else one.
func fair(t *testing.T, l entries, table []int) {
	t.Helper()
	share := weight.Share(weights(l), len(table))
	held := 0
	for i, x := range l {
		n := maglev.Held(table, x.Id)
		if n != share[i] || n > 0 && weight.Clean(x.Weight) == 0 {
			t.Fatalf("%v: %d of %d slots are held by %d, its share is %d", l, n, len(table), x.Id, share[i])
		}
		held += n
	}
	if held != len(table) {
		t.Fatalf("%v: %d of %d slots are the entries'", l, held, len(table))
	}
}

// TestMostEntries: as many as there may be, of as many slots as there may be, and of fewer slots than entries.
func TestMostEntries(t *testing.T) {
	var l entries
	for id := range api.MaxBackends {
		l = append(l, maglev.Entry{Id: id, Weight: float64(1 + id%5)})
	}
	for _, slots := range primes() {
		table, e := maglev.Build(l, slots)
		if !slices.Equal(table, plainBuild(l, slots)) || len(table) != slots || e != api.OK {
			t.Fatalf("Build(%v, %d) = %v, %d", l, slots, table, e)
		}
		fair(t, l, table)
	}
}

// TestWhoCountsForNothing is P10.5: with or without those whose weights count for nothing, the table is the same, as it is by whatever floats count alike.
func TestWhoCountsForNothing(t *testing.T) {
	rnd := rand.New(rand.NewSource(3))
	for range 300 {
		l, slots := someEntries(rnd), primes()[rnd.Intn(60)]
		var alone, clean entries
		for _, x := range l {
			if weight.Clean(x.Weight) > 0 {
				alone = append(alone, x)
			}
			if weight.Clean(x.Weight) == 0 {
				x.Weight = nothing()[rnd.Intn(len(nothing()))]
			}
			clean = append(clean, maglev.Entry{Id: x.Id, Weight: weight.Clean(x.Weight)})
		}
		table, e := maglev.Build(l, slots)
		for _, like := range []entries{alone, clean, l} {
			if again, f := maglev.Build(like, slots); !slices.Equal(again, table) || e != f {
				t.Fatalf("Build(%v, %d) = %v, %d; Build(%v) = %v, %d", l, slots, table, e, like, again, f)
			}
		}
	}
}

// refused fails unless Build answers this error and no table.
func refused(t *testing.T, l entries, slots int, want api.Errno) {
	t.Helper()
	if table, e := maglev.Build(l, slots); len(table) != 0 || e != want {
		t.Errorf("Build(%v, %d) = %v, %d, want %d", l, slots, table, e, want)
	}
}

// many: so many entries that rise.
func many(n int) entries {
	var l entries
	for id := range n {
		l = append(l, maglev.Entry{Id: id, Weight: 1})
	}
	return l
}

func TestNoTable(t *testing.T) {
	for _, slots := range noPrimes() {
		refused(t, entries{{0, 1}}, slots, api.ErrArg)
		refused(t, nil, slots, api.ErrArg) // named ahead of ErrNone
		refused(t, entries{{0, nan()}}, slots, api.ErrArg)
	}
	for _, id := range noIds() {
		refused(t, entries{{id, 1}}, 7, api.ErrArg)
		refused(t, entries{{id, 0}}, 7, api.ErrArg)
		refused(t, entries{{5, 1}, {id, 1}}, 7, api.ErrArg)
		refused(t, entries{{id, 1}, {5, 1}}, 7, api.ErrArg)
	}
	for _, l := range []entries{{{3, 1}, {3, 1}}, {{3, 1}, {2, 1}}, {{0, 1}, {1, 1}, {1, 0}}, {{0, 1}, {5, 0}, {4, 1}}, {{1, 1}, {31, 1}, {0, 1}}, {{3, 0}, {3, 0}}} {
		refused(t, l, 7, api.ErrArg)
	}
	for _, n := range []int{33, 34, 1000, 100000} {
		refused(t, many(n), 7, api.ErrArg)
		refused(t, make(entries, n), 7, api.ErrArg)
	}
	for _, w := range nothing() {
		refused(t, entries{{0, w}}, 7, api.ErrNone)
		refused(t, entries{{2, w}, {9, nan()}, {31, w}}, 2, api.ErrNone)
	}
	refused(t, nil, 7, api.ErrNone)
	refused(t, entries{}, api.MaxSlots, api.ErrNone)
	refused(t, make(entries, 1), 2, api.ErrNone)
	if table, e := maglev.Build(many(32), 2); len(table) != 2 || e != api.OK {
		t.Errorf("Build of 32 = %v, %d", table, e)
	}
}

// TestTablesShareNothing: what is handed in isn't changed or kept, and no table shares memory with another one.
func TestTablesShareNothing(t *testing.T) {
	l := entries{{0, 2}, {1, 1}, {2, -5}, {3, inf()}}
	was := slices.Clone(l)
	a, _ := maglev.Build(l, 13)
	b, _ := maglev.Build(l, 13)
	if !slices.Equal(l, was) {
		t.Fatalf("behind Build: %v", l)
	}
	clear(l)
	_ = append(a, 9, 9)
	clear(a[:cap(a)])
	if c, _ := maglev.Build(was, 13); !slices.Equal(b, c) || !slices.Equal(b, slices.Repeat([]int{3}, 13)) {
		t.Errorf("%v, %v", b, c)
	}
}

func TestFind(t *testing.T) {
	table := []int{4, 9, -1, 4, 31, 7, math.MinInt}
	for _, c := range []struct {
		h    uint64
		want int
	}{
		{0, 4}, {1, 9}, {2, -1}, {3, 4}, {4, 31}, {5, 7}, {6, math.MinInt}, {7, 4}, {8, 9},
		{math.MaxUint64, 9}, // 7 by 2635249153387078802, and 1
		{1<<63 - 1, 4},
		{1 << 63, 9}, // above the greatest of numbers with a sign
		{1<<63 + 1, -1},
	} {
		if id, e := maglev.Find(table, c.h); id != c.want || e != api.OK {
			t.Errorf("Find(%x) = %d, %d, want %d", c.h, id, e, c.want)
		}
	}
	for _, h := range []uint64{0, 1, 1 << 63, math.MaxUint64} {
		for _, none := range [][]int{nil, {}, table[:0]} {
			if id, e := maglev.Find(none, h); id != 0 || e != api.ErrNone {
				t.Errorf("Find(%v, %x) = %d, %d", none, h, id, e)
			}
		}
		if id, e := maglev.Find([]int{5}, h); id != 5 || e != api.OK {
			t.Errorf("Find of one slot = %d, %d", id, e)
		}
		if id, e := maglev.Find(make([]int, 100000), h); id != 0 || e != api.OK {
			t.Errorf("Find of many slots = %d, %d", id, e)
		}
	}
}

func TestMoved(t *testing.T) {
	for _, c := range []struct {
		a, b []int
		want int
	}{
		{nil, nil, 0},
		{nil, []int{}, 0},
		{[]int{1, 2, 3}, []int{1, 2, 3}, 0},
		{[]int{1, 2, 3}, []int{3, 2, 1}, 2},
		{[]int{1, 1}, []int{2, 2}, 2},
		{[]int{-1, math.MaxInt}, []int{-1, math.MinInt}, 1},
		{make([]int, 100000), slices.Repeat([]int{1}, 100000), 100000},
	} {
		if n, e := maglev.Moved(c.a, c.b); n != c.want || e != api.OK {
			t.Errorf("Moved of %d slots = %d, %d, want %d", len(c.a), n, e, c.want)
		}
		if n, e := maglev.Moved(c.b, c.a); n != c.want || e != api.OK {
			t.Errorf("Moved the other way = %d, %d, want %d", n, e, c.want)
		}
	}
	for _, c := range [][2][]int{{nil, {1}}, {{}, {0}}, {{1, 2}, {1, 2, 3}}, {{1, 2}, {2, 1, 3}}, {{1}, make([]int, 1021)}} {
		if n, e := maglev.Moved(c[0], c[1]); n != 0 || e != api.ErrArg {
			t.Errorf("Moved(%v, %v) = %d, %d", c[0], c[1], n, e)
		}
		if n, e := maglev.Moved(c[1], c[0]); n != 0 || e != api.ErrArg {
			t.Errorf("Moved(%v, %v) = %d, %d", c[1], c[0], n, e)
		}
	}
}

func TestHeld(t *testing.T) {
	table := []int{4, 9, -1, 4, 31, 4, math.MinInt}
	for _, c := range []struct{ id, want int }{{4, 3}, {9, 1}, {-1, 1}, {0, 0}, {31, 1}, {32, 0}, {math.MinInt, 1}, {math.MaxInt, 0}} {
		if n := maglev.Held(table, c.id); n != c.want {
			t.Errorf("Held(%v, %d) = %d", table, c.id, n)
		}
	}
	if n := maglev.Held(nil, 0); n != 0 {
		t.Errorf("Held(nil, 0) = %d", n)
	}
	if n := maglev.Held(make([]int, 100000), 0); n != 100000 {
		t.Errorf("Held of many = %d", n)
	}
}

// TestTablesStayAsTheyWere: no call that asks of a table changes it.
func TestTablesStayAsTheyWere(t *testing.T) {
	table := []int{3, 1, 2, 2, 1}
	was := slices.Clone(table)
	for h := range uint64(10) {
		maglev.Find(table, h)
	}
	maglev.Moved(table, was)
	maglev.Moved(was, table)
	maglev.Held(table, 2)
	if !slices.Equal(table, []int{3, 1, 2, 2, 1}) || !slices.Equal(was, table) {
		t.Errorf("%v, %v", table, was)
	}
}

// FuzzBuild: entries of any kind and any numbers of slots end with what the plain one has, or an error.
func FuzzBuild(f *testing.F) {
	f.Add(0, math.Float64bits(1), 1, math.Float64bits(1), 7)
	f.Add(3, math.Float64bits(inf()), 3, math.Float64bits(nan()), 1021)
	f.Add(-1, uint64(0), 32, uint64(1), 1031)
	f.Add(0, uint64(0), 31, uint64(1)<<63, 2)
	f.Fuzz(func(t *testing.T, id0 int, w0 uint64, id1 int, w1 uint64, slots int) {
		l := entries{{id0, math.Float64frombits(w0)}, {id1, math.Float64frombits(w1)}}
		table, e := maglev.Build(l, slots)
		switch {
		case slots > 1021 || !divided(slots) || id0 < 0 || id0 >= id1 || id1 > 31:
			if len(table) != 0 || e != api.ErrArg {
				t.Fatalf("Build(%v, %d) = %v, %d", l, slots, table, e)
			}
		case !(l[0].Weight > 0) && !(l[1].Weight > 0):
			if len(table) != 0 || e != api.ErrNone {
				t.Fatalf("Build(%v, %d) = %v, %d", l, slots, table, e)
			}
		default:
			if !slices.Equal(table, plainBuild(l, slots)) || len(table) != slots || e != api.OK {
				t.Fatalf("Build(%v, %d) = %v, %d", l, slots, table, e)
			}
		}
	})
}

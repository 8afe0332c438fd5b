package weight_test

import (
	"math"
	"math/big"
	"math/rand"
	"slices"
	"testing"

	"steelyard/api"
	"steelyard/weight"
)

func TestTurns(t *testing.T) {
	for _, c := range []struct {
		l    []float64
		n    int
		want []int
	}{
		{[]float64{2, 1, 0, nan()}, 6, []int{0, 0, 1, 0, 0, 1}}, // the document's example
		{[]float64{2, 1, 0, nan()}, 1, []int{0}},
		{[]float64{2, 1, 0, nan()}, 2, []int{0, 0}},
		{[]float64{2, 1, 0, nan()}, 3, []int{0, 0, 1}},
		{[]float64{1}, 3, []int{0, 0, 0}},
		{[]float64{smallest}, 2, []int{0, 0}},
		{[]float64{inf()}, 2, []int{0, 0}},
		{[]float64{1, 1, 1}, 5, []int{0, 1, 2, 0, 1}},
		{[]float64{1, 2}, 5, []int{1, 0, 1, 1, 0}},             // who stands ahead comes ahead in a round
		{[]float64{3, 1, 2}, 8, []int{0, 0, 2, 0, 1, 0, 2, 0}}, // a third is three times added 1, but 4/3 less 1 is less than it
		{[]float64{inf(), greatest, 1}, 4, []int{0, 1, 0, 1}},
		{[]float64{1, inf()}, 3, []int{1, 1, 1}},
		{[]float64{inf(), greatest / 2}, 6, []int{0, 0, 1, 0, 0, 1}},
		{[]float64{minusI(), -1, minusZ(), nan(), 5}, 2, []int{4, 4}},
		{[]float64{smallest, inf()}, 2, []int{1, 1}},                      // its Part is 0, though it counts
		{[]float64{10, 1}, 12, []int{0, 0, 0, 0, 0, 0, 0, 0, 0, 0, 0, 1}}, // ten tenths, added one behind the other, are less than 1
		{[]float64{10, 1}, 11, []int{0, 0, 0, 0, 0, 0, 0, 0, 0, 0, 0}},
		{[]float64{4, 1, 3}, 16, []int{0, 0, 2, 0, 2, 0, 1, 2, 0, 0, 2, 0, 2, 0, 1, 2}},
	} {
		if l := weight.Turns(c.l, c.n); !slices.Equal(l, c.want) {
			t.Errorf("Turns(%v, %d) = %v, want %v", c.l, c.n, l, c.want)
		}
	}
}

// none fails unless both Turns and Share are none.
func none(t *testing.T, l []float64, n int) {
	t.Helper()
	if turns := weight.Turns(l, n); len(turns) != 0 {
		t.Errorf("Turns of %d, %d = %v", len(l), n, turns)
	}
	if share := weight.Share(l, n); len(share) != 0 {
		t.Errorf("Share of %d, %d = %v", len(l), n, share)
	}
}

func TestNoTurns(t *testing.T) {
	l := []float64{2, 1, 0, nan()}
	for _, n := range []int{math.MinInt, -1, 0, api.MaxGrow + 1, 2 * api.MaxGrow, 1 << 32, math.MaxInt} {
		none(t, l, n)
	}
	for _, n := range []int{1, 2, api.MaxGrow - 1, api.MaxGrow} {
		if turns := weight.Turns(l, n); len(turns) != n {
			t.Errorf("Turns of %d = %d of them", n, len(turns))
		}
	}
	for _, n := range []int{api.MaxBackends + 1, api.MaxBackends + 2, 100000} {
		none(t, slices.Repeat([]float64{1}, n), 1)
		none(t, append(make([]float64, n-1), 1), 1)
	}
	for _, l := range [][]float64{nil, {}, {0}, {minusZ()}, {nan()}, {-1}, {minusI()}, append(nans(), 0, minusZ(), -smallest, -greatest, minusI())} {
		none(t, l, 0)
		none(t, l, 1)
		none(t, l, api.MaxGrow)
	}
	l = append(make([]float64, api.MaxBackends-1), 1)
	if turns := weight.Turns(l, 1); !slices.Equal(turns, []int{api.MaxBackends - 1}) {
		t.Errorf("Turns of %d = %v", len(l), turns)
	}
}

func TestShare(t *testing.T) {
	for _, c := range []struct {
		l    []float64
		n    int
		want []int
	}{
		{[]float64{2, 1, 0, nan()}, 6, []int{4, 2, 0, 0}},
		{[]float64{2, 1, 0, nan()}, 1, []int{1, 0, 0, 0}},
		{[]float64{1, 2}, 1, []int{0, 1}},
		{[]float64{1, 1, 1}, 5, []int{2, 2, 1}},
		{[]float64{inf(), 1}, api.MaxGrow, []int{api.MaxGrow, 0}},
		{[]float64{10, 1}, 12, []int{11, 1}},
		{slices.Repeat([]float64{7}, api.MaxBackends), api.MaxGrow, slices.Repeat([]int{api.MaxGrow / api.MaxBackends}, api.MaxBackends)},
	} {
		if l := weight.Share(c.l, c.n); !slices.Equal(l, c.want) {
			t.Errorf("Share(%v, %d) = %v, want %v", c.l, c.n, l, c.want)
		}
	}
}

// plainTurns is Turns by numbers of any precision, each sum and quotient rounded to a float, and by whole rounds.
func plainTurns(l []float64, n int) []int {
	best := 0.0
	for _, w := range l {
		best = max(best, counts(w))
	}
	if n < 1 || n > 4096 || len(l) > 32 || best == 0 {
		return nil
	}
	debts := map[int]*big.Rat{}
	for i := range l {
		debts[i] = new(big.Rat)
	}
	one := big.NewRat(1, 1)
	var turns []int
	for len(turns) < n {
		for i, w := range l {
			part := rounded(new(big.Rat).Quo(exact(counts(w)), exact(best)))
			debt := exact(rounded(new(big.Rat).Add(debts[i], exact(part))))
			if debt.Cmp(one) >= 0 {
				debt = exact(rounded(new(big.Rat).Sub(debt, one)))
				turns = append(turns, i)
			}
			debts[i] = debt
		}
	}
	return turns[:n]
}

// someWeights: weights by chance, alike ones and odd ones not rare.
func someWeights(rnd *rand.Rand) []float64 {
	l := make([]float64, rnd.Intn(api.MaxBackends+1))
	for i := range l {
		switch rnd.Intn(6) {
		case 0:
			l[i] = someFloat(rnd)
		case 1:
			l[i] = float64(rnd.Intn(4))
		case 2:
			l[i] = l[rnd.Intn(i+1)]
		default:
			l[i] = 100 * rnd.Float64()
		}
	}
	return l
}

// TestTurnsByChance holds Turns against the plain one, and is P8.7 and P8.8.
func TestTurnsByChance(t *testing.T) {
	rnd := rand.New(rand.NewSource(6))
	for range 300 {
		l, n := someWeights(rnd), 1+rnd.Intn(400)
		turns, share := weight.Turns(l, n), weight.Share(l, n)
		if !slices.Equal(turns, plainTurns(l, n)) {
			t.Fatalf("Turns(%v, %d) = %v, want %v", l, n, turns, plainTurns(l, n))
		}
		fair(t, l, n, turns, share)
	}
}

// TestMostTurns: as many as there may be, of as many as there may be.
func TestMostTurns(t *testing.T) {
	rnd := rand.New(rand.NewSource(7))
	for range 3 {
		l := make([]float64, api.MaxBackends)
		for i := range l {
			l[i] = rnd.ExpFloat64()
		}
		turns := weight.Turns(l, api.MaxGrow)
		if !slices.Equal(turns, plainTurns(l, api.MaxGrow)) {
			t.Fatalf("Turns(%v, %d)", l, api.MaxGrow)
		}
		fair(t, l, api.MaxGrow, turns, weight.Share(l, api.MaxGrow))
	}
}

// fair fails unless turns and share are as P8.4, P8.7 and P8.8 say.
func fair(t *testing.T, l []float64, n int, turns, share []int) {
	t.Helper()
	if len(turns) == 0 {
		if len(share) != 0 {
			t.Fatalf("no turns, but a share %v", share)
		}
		return
	}
	often := make([]int, len(l))
	for _, i := range turns {
		often[i]++
	}
	if len(turns) != n || !slices.Equal(share, often) {
		t.Fatalf("Share(%v, %d) = %v, want %v", l, n, share, often)
	}
	best := 0
	for i, w := range l {
		if counts(w) > counts(l[best]) {
			best = i
		}
	}
	all := 0
	for i, w := range l {
		all += share[i]
		if counts(w) == 0 && share[i] != 0 {
			t.Fatalf("%v: the number %d has %d turns", l, i, share[i])
		}
		if share[i] > share[best]+1 {
			t.Fatalf("%v: the number %d has %d turns, the best one %d", l, i, share[i], share[best])
		}
		for j := range i {
			if counts(w) == counts(l[j]) && share[j] != share[i] && share[j] != share[i]+1 {
				t.Fatalf("%v: the numbers %d and %d count alike, and have %d and %d", l, j, i, share[j], share[i])
			}
		}
	}
	if all != n {
		t.Fatalf("Share(%v, %d) has %d", l, n, all)
	}
}

// TestWeightsStayAsTheyWere: what is handed in isn't changed, nor kept, and answers share nothing.
func TestWeightsStayAsTheyWere(t *testing.T) {
	l := []float64{2, minusZ(), nan(), inf(), -1}
	was := slices.Clone(l)
	turns, share := weight.Turns(l, 3), weight.Share(l, 3)
	weight.Best(l)
	weight.Sum(l)
	for i, w := range l {
		bits(t, "what was given", w, was[i])
	}
	clear(l)
	if !slices.Equal(turns, []int{3, 3, 3}) || !slices.Equal(share, []int{0, 0, 0, 3, 0}) {
		t.Errorf("behind a change of what was given: %v, %v", turns, share)
	}
	clear(turns)
	clear(share)
	if turns, share := weight.Turns(was, 3), weight.Share(was, 3); !slices.Equal(turns, []int{3, 3, 3}) || !slices.Equal(share, []int{0, 0, 0, 3, 0}) {
		t.Errorf("behind a change of an answer: %v, %v", turns, share)
	}
}

// FuzzTurns: weights of all bits and any numbers end with what the plain one has.
func FuzzTurns(f *testing.F) {
	f.Add(math.Float64bits(2), math.Float64bits(1), math.Float64bits(0), 6)
	f.Add(math.Float64bits(inf()), math.Float64bits(nan()), math.Float64bits(minusZ()), 3)
	f.Add(math.Float64bits(smallest), math.Float64bits(3*smallest), math.Float64bits(minusI()), -1)
	f.Fuzz(func(t *testing.T, x, y, z uint64, n int) {
		l := []float64{math.Float64frombits(x), math.Float64frombits(y), math.Float64frombits(z)}
		if n > 50 && n <= api.MaxGrow {
			n %= 50 // the plain one takes its time
		}
		turns := weight.Turns(l, n)
		if !slices.Equal(turns, plainTurns(l, n)) {
			t.Fatalf("Turns(%v, %d) = %v, want %v", l, n, turns, plainTurns(l, n))
		}
		fair(t, l, n, turns, weight.Share(l, n))
	})
}

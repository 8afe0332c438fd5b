package weight_test

import (
	"math"
	"math/big"
	"math/rand"
	"slices"
	"testing"

	"steelyard/weight"
)

// Some floats at edges.
const (
	greatest = math.MaxFloat64
	smallest = math.SmallestNonzeroFloat64
)

func nan() float64    { return math.NaN() }
func inf() float64    { return math.Inf(1) }
func minusZ() float64 { return math.Copysign(0, -1) }
func minusI() float64 { return math.Inf(-1) }
func normal() float64 { return 0x1p-1022 }                   // the least one that has all its bits
func before() float64 { return math.Nextafter(greatest, 0) } // the one ahead of the greatest
func nans() []float64 {
	return []float64{nan(), -nan(), quiet(1), quiet(1<<63 | 5), loud(1), loud(1<<63 | 7)}
}
func quiet(bits uint64) float64 { return math.Float64frombits(0x7ff8<<48 | bits) }
func loud(bits uint64) float64  { return math.Float64frombits(0x7ff0<<48 | bits) }

// inOrder: floats of all kinds, each ahead of the next one, but NaN.
func inOrder() []float64 {
	return []float64{
		minusI(), -greatest, -before(), -1e300, -2, math.Nextafter(-1, -2), -1, math.Nextafter(-1, 0), -normal(), -2 * smallest, -smallest, minusZ(),
		0, smallest, 2 * smallest, math.Nextafter(normal(), 0), normal(), 0.1, math.Nextafter(1, 0), 1, math.Nextafter(1, 2), 2, 1e300, before(), greatest, inf(),
	}
}

// bits fails unless it is just that float, +0 and -0 held apart, all NaN alike.
func bits(t *testing.T, name string, got, want float64) {
	t.Helper()
	if math.IsNaN(want) && math.IsNaN(got) {
		return
	}
	if math.Float64bits(got) != math.Float64bits(want) {
		t.Errorf("%s = %x, want %x", name, got, want)
	}
}

// what a float counts as, by the document's words.
func counts(w float64) float64 {
	switch {
	case w > 0 && w <= greatest:
		return w
	case w > greatest:
		return greatest
	}
	return 0
}

// someFloat: a float of any kind by chance, those that are close to each other not rare.
func someFloat(rnd *rand.Rand) float64 {
	switch rnd.Intn(4) {
	case 0:
		return math.Float64frombits(rnd.Uint64())
	case 1:
		return float64(rnd.Intn(12))
	case 2:
		l := append(inOrder(), nans()...)
		return l[rnd.Intn(len(l))]
	}
	return 10 * rnd.Float64()
}

func TestClean(t *testing.T) {
	for _, w := range append(inOrder(), nans()...) {
		bits(t, "Clean", weight.Clean(w), counts(w))
	}
	bits(t, "Clean(-0)", weight.Clean(minusZ()), 0)
	bits(t, "Clean(+inf)", weight.Clean(inf()), math.Float64frombits(0x7fefffffffffffff))
	bits(t, "Clean(-inf)", weight.Clean(minusI()), 0)
	bits(t, "Clean(NaN)", weight.Clean(nan()), 0)
	bits(t, "Clean(0.1)", weight.Clean(0.1), 0.1)
}

func TestOrder(t *testing.T) {
	l := inOrder()
	for i, a := range l {
		for j, b := range l {
			if weight.Same(a, b) != (i == j) || weight.Less(a, b) != (i < j) {
				t.Errorf("%x and %x: Same %v, Less %v", a, b, weight.Same(a, b), weight.Less(a, b))
			}
		}
		for _, b := range nans() {
			if weight.Same(a, b) || weight.Same(b, a) || !weight.Less(a, b) || weight.Less(b, a) {
				t.Errorf("%x and NaN: Same %v, Less %v, %v", a, weight.Same(a, b), weight.Less(a, b), weight.Less(b, a))
			}
		}
	}
	for _, a := range nans() {
		for _, b := range nans() {
			if !weight.Same(a, b) || weight.Less(a, b) {
				t.Errorf("NaN and NaN: Same %v, Less %v", weight.Same(a, b), weight.Less(a, b))
			}
		}
	}
}

// TestOneOrder: of any two just one of Same, Less and Less of the other way holds, and Less goes on from one to the next.
func TestOneOrder(t *testing.T) {
	rnd := rand.New(rand.NewSource(1))
	for range 20000 {
		a, b, c := someFloat(rnd), someFloat(rnd), someFloat(rnd)
		n := 0
		for _, is := range []bool{weight.Same(a, b), weight.Less(a, b), weight.Less(b, a)} {
			if is {
				n++
			}
		}
		if n != 1 {
			t.Fatalf("%x and %x: %d of the three", a, b, n)
		}
		if weight.Less(a, b) && weight.Less(b, c) && !weight.Less(a, c) {
			t.Fatalf("%x, %x, %x", a, b, c)
		}
		if weight.Same(a, b) && (weight.Less(a, c) != weight.Less(b, c) || weight.Less(c, a) != weight.Less(c, b)) {
			t.Fatalf("%x and %x are the same, but not for %x", a, b, c)
		}
	}
}

// TestCleanTwice is P8.6.
func TestCleanTwice(t *testing.T) {
	rnd := rand.New(rand.NewSource(2))
	for range 20000 {
		a, b := someFloat(rnd), someFloat(rnd)
		bits(t, "Clean twice", weight.Clean(weight.Clean(a)), weight.Clean(a))
		if !math.IsNaN(a) && !math.IsNaN(b) && weight.Less(a, b) && weight.Less(weight.Clean(b), weight.Clean(a)) {
			t.Errorf("%x, %x: Clean falls", a, b)
		}
	}
}

func TestBest(t *testing.T) {
	for _, c := range []struct {
		l    []float64
		want float64
	}{
		{nil, 0},
		{[]float64{}, 0},
		{[]float64{nan()}, 0},
		{[]float64{minusZ()}, 0},
		{[]float64{minusI(), -1, minusZ(), nan()}, 0},
		{[]float64{smallest}, smallest},
		{[]float64{1, 3, 2}, 3},
		{[]float64{3, 2, 1, nan()}, 3},
		{[]float64{nan(), 1, 2}, 2},
		{[]float64{1, nan(), 0.5}, 1},
		{[]float64{1, inf(), 5}, greatest},
		{[]float64{inf(), inf()}, greatest},
		{[]float64{before(), greatest}, greatest},
	} {
		bits(t, "Best", weight.Best(c.l), c.want)
	}
	bits(t, "Best of many", weight.Best(append(make([]float64, 100000), 7)), 7)
}

func TestSum(t *testing.T) {
	tiny := 0x1p-53 // added to 1 it is lost, and two of them are not
	for _, c := range []struct {
		l    []float64
		want float64
	}{
		{nil, 0},
		{[]float64{}, 0},
		{[]float64{minusZ()}, 0},
		{[]float64{nan(), minusI(), -5, minusZ()}, 0},
		{[]float64{1, 2, 3.5}, 6.5},
		{[]float64{1, nan(), -7, 2}, 3},
		{[]float64{0.1, 0.2, 0.3}, 0.6000000000000001},
		{[]float64{0.3, 0.2, 0.1}, 0.6},
		{[]float64{1, tiny, tiny}, 1},
		{[]float64{tiny, tiny, 1}, math.Nextafter(1, 2)},
		{[]float64{smallest, smallest}, 2 * smallest},
		{[]float64{inf()}, greatest},
		{[]float64{greatest, 1e291}, greatest}, // too little to be seen
		{[]float64{greatest, greatest}, greatest},
		{[]float64{greatest, 1e300, minusI(), 5}, greatest},
		{[]float64{inf(), inf(), inf(), 1}, greatest},
		{[]float64{before(), greatest - before()}, greatest},
		{[]float64{greatest / 2, greatest / 2}, greatest},
		{[]float64{greatest / 2, before() / 2}, before()}, // it lies between two, and goes to the even one
	} {
		bits(t, "Sum", weight.Sum(c.l), c.want)
	}
	bits(t, "Sum of many", weight.Sum(slices.Repeat([]float64{1, nan()}, 50000)), 50000)
}

// TestSumOneBehindTheOther: by numbers of any precision, each sum rounded to a float.
func TestSumOneBehindTheOther(t *testing.T) {
	rnd := rand.New(rand.NewSource(3))
	for range 3000 {
		l := make([]float64, rnd.Intn(40))
		sum := 0.0
		for i := range l {
			l[i] = someFloat(rnd)
			sum = rounded(new(big.Rat).Add(exact(sum), exact(counts(l[i]))))
		}
		bits(t, "Sum", weight.Sum(l), sum)
	}
}

// exact: a float as a number without rounding.
func exact(w float64) *big.Rat {
	return new(big.Rat).SetFloat64(w)
}

// rounded: the float closest to it, at most the greatest one.
func rounded(n *big.Rat) float64 {
	w, _ := n.Float64()
	return min(w, greatest)
}

func TestPart(t *testing.T) {
	for _, c := range []struct{ w, best, want float64 }{
		{1, 2, 0.5},
		{1, 3, 1.0 / 3},
		{1, 10, 0.1},
		{2, 2, 1},
		{3, 2, 1},
		{inf(), 2, 1},
		{inf(), inf(), 1},
		{greatest, inf(), 1},
		{inf(), greatest, 1},
		{before(), inf(), math.Nextafter(1, 0)},
		{greatest / 2, inf(), 0.5},
		{1, inf(), 1 / greatest},
		{smallest, inf(), 0}, // the quotient is less than all floats above 0
		{smallest, smallest, 1},
		{smallest, 2 * smallest, 0.5},
		{math.Nextafter(1, 0), 1, math.Nextafter(1, 0)},
		{1, math.Nextafter(1, 2), 1 - 0x1p-52},
		{0, 2, 0}, {minusZ(), 2, 0}, {-1, 2, 0}, {minusI(), 2, 0}, {nan(), 2, 0},
		{2, 0, 0}, {2, minusZ(), 0}, {2, -1, 0}, {2, minusI(), 0}, {2, nan(), 0},
		{0, 0, 0}, {nan(), nan(), 0}, {minusZ(), minusZ(), 0}, {-2, -1, 0}, {minusI(), minusI(), 0}, {inf(), nan(), 0},
	} {
		bits(t, "Part", weight.Part(c.w, c.best), c.want)
	}
}

// TestPartRounded: by numbers of any precision.
func TestPartRounded(t *testing.T) {
	rnd := rand.New(rand.NewSource(4))
	for range 20000 {
		w, best := someFloat(rnd), someFloat(rnd)
		want := 0.0
		switch {
		case counts(w) == 0 || counts(best) == 0:
		case counts(w) >= counts(best):
			want = 1
		default:
			want = rounded(new(big.Rat).Quo(exact(counts(w)), exact(counts(best))))
		}
		bits(t, "Part", weight.Part(w, best), want)
	}
}

func TestSmooth(t *testing.T) {
	for _, c := range []struct{ was, now, keep, want float64 }{
		{10, 20, 0.5, 15},
		{10, 20, 0, 20},
		{10, 20, minusZ(), 20},
		{10, 20, 1, 10},
		{10, 20, 0.25, 17.5},
		{-10, 20, 0.75, -2.5},
		{0.1, 0.2, 0.1, 0x1.851eb851eb853p-3},
		{10, nan(), 0.5, nan()},
		{nan(), nan(), 0.5, nan()},
		{nan(), nan(), 2, nan()},
		{10, nan(), -1, nan()},
		{10, nan(), nan(), nan()},
		{10, nan(), 1, nan()}, // though nothing of it would be in the average
		{nan(), 20, 0.5, 20},
		{nan(), 20, 1, 20},
		{nan(), minusZ(), 0.5, minusZ()},
		{nan(), inf(), 0.5, inf()},
		{10, 20, nan(), 20},
		{10, 20, -smallest, 20},
		{10, 20, math.Nextafter(1, 2), 20},
		{10, 20, -1, 20},
		{10, 20, 2, 20},
		{10, 20, inf(), 20},
		{10, 20, minusI(), 20},
		{10, minusI(), 2, minusI()},
		{8, 20, smallest, 20},
		{10, 10, math.Nextafter(1, 0), 10},
		{inf(), 20, 0.5, inf()},
		{10, minusI(), 0.5, minusI()},
		{inf(), minusI(), 0.5, nan()},
		{inf(), 20, 0, nan()}, // 0 of infinity is NaN
		{10, inf(), 1, nan()},
		{greatest, greatest, 0.5, greatest},
		{minusZ(), minusZ(), 0.5, minusZ()},
		{minusZ(), 0, 0.5, 0},
	} {
		bits(t, "Smooth", weight.Smooth(c.was, c.now, c.keep), c.want)
	}
}

// TestSmoothRoundsEach: each product and the sum are rounded by themselves, which is not always as if one product went into the sum as it is.
func TestSmoothRoundsEach(t *testing.T) {
	rnd := rand.New(rand.NewSource(5))
	unlike := 0
	for range 5000 {
		was, now, keep := rnd.NormFloat64(), rnd.NormFloat64(), rnd.Float64()
		rest := rounded(new(big.Rat).Sub(exact(1), exact(keep)))
		first := rounded(new(big.Rat).Mul(exact(keep), exact(was)))
		second := rounded(new(big.Rat).Mul(exact(rest), exact(now)))
		want := rounded(new(big.Rat).Add(exact(first), exact(second)))
		bits(t, "Smooth", weight.Smooth(was, now, keep), want)
		if math.FMA(keep, was, second) != want || math.FMA(rest, now, first) != want {
			unlike++
		}
	}
	if unlike < 100 {
		t.Errorf("only %d tell the one from the other", unlike)
	}
}

// FuzzFloats: floats of all bits end with an answer, and what follows from the promises holds.
func FuzzFloats(f *testing.F) {
	for _, w := range append(inOrder(), nans()...) {
		f.Add(math.Float64bits(w), math.Float64bits(1), math.Float64bits(0.5))
	}
	f.Fuzz(func(t *testing.T, x, y, z uint64) {
		a, b, c := math.Float64frombits(x), math.Float64frombits(y), math.Float64frombits(z)
		bits(t, "Clean", weight.Clean(a), counts(a))
		if weight.Less(a, b) && weight.Less(b, a) || weight.Same(a, b) == (weight.Less(a, b) || weight.Less(b, a)) {
			t.Errorf("%x and %x: Same %v, Less %v", a, b, weight.Same(a, b), weight.Less(a, b))
		}
		if p := weight.Part(a, b); !(p >= 0 && p <= 1) {
			t.Errorf("Part(%x, %x) = %x", a, b, p)
		}
		if n := weight.Best([]float64{a, b, c}); n != max(counts(a), counts(b), counts(c)) {
			t.Errorf("Best of %x, %x, %x = %x", a, b, c, n)
		}
		if n := weight.Sum([]float64{a, b, c}); !(n >= weight.Best([]float64{a, b, c}) && n <= greatest) {
			t.Errorf("Sum of %x, %x, %x = %x", a, b, c, n)
		}
		n := weight.Smooth(a, b, c)
		if math.IsNaN(b) && !math.IsNaN(n) {
			t.Errorf("Smooth(%x, %x, %x) = %x", a, b, c, n)
		}
		if math.IsNaN(a) || !(c >= 0 && c <= 1) {
			bits(t, "Smooth", n, b)
		}
	})
}

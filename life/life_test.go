package life_test

import (
	"math"
	"math/rand"
	"slices"
	"testing"

	"steelyard/api"
	"steelyard/life"
)

const (
	greatest = math.MaxFloat64
	smallest = math.SmallestNonzeroFloat64
)

func nan() float64    { return math.NaN() }
func inf() float64    { return math.Inf(1) }
func minusZ() float64 { return math.Copysign(0, -1) }

// four, six: addresses of these bytes, with 0 behind them.
func four(b ...byte) api.Addr {
	var a api.Addr
	copy(a.B[:], b)
	return a
}

func six(b ...byte) api.Addr {
	a := four(b...)
	a.V6 = true
	return a
}

type votes = []life.Vote

// simple is a backend that has just come; full is one of which all that there may be is known.
func simple() life.Rec {
	return life.Rec{Gen: 1, Life: api.Active, Spec: life.Spec{Stamp: 5, By: 2, Addr: four(10, 1, 0, 2), Weight: 1}}
}

func full() life.Rec {
	r := life.Rec{Gen: api.MaxTicks, Life: api.Released, Done: 65535}
	r.Spec = life.Spec{Stamp: api.MaxTicks, By: 15, Addr: six(0xfd, 1, 2, 3, 4, 5, 6, 7, 8, 9, 10, 11, 12, 13, 14, 15), Weight: greatest}
	for i := range int64(16) {
		r.Votes = append(r.Votes, life.Vote{Stamp: api.MaxTicks - i, Ok: i%3 == 0})
	}
	return r
}

// but: a Rec with one change.
func but(r life.Rec, change func(r *life.Rec)) life.Rec {
	r.Votes = slices.Clone(r.Votes)
	change(&r)
	return r
}

// rights: some that can be, at the edges.
func rights() []life.Rec {
	l := []life.Rec{{}, {Votes: votes{}}, simple(), full()}
	add := func(change func(r *life.Rec)) { l = append(l, but(simple(), change), but(full(), change)) }
	for _, n := range []int64{1, 2, api.MaxTicks - 1, api.MaxTicks} {
		add(func(r *life.Rec) { r.Gen = n })
		add(func(r *life.Rec) { r.Spec.Stamp = n })
		add(func(r *life.Rec) { r.Votes = votes{{}, {n, true}, {}, {n, false}} })
	}
	for n := api.Active; n <= api.Released; n++ {
		add(func(r *life.Rec) { r.Life = n })
	}
	for _, n := range []int{0, 1, 7, 14, 15} {
		add(func(r *life.Rec) { r.Spec.By = n })
	}
	for _, a := range []api.Addr{four(), four(255, 255, 255, 255), six(), six(1, 2, 3, 4), six(0, 0, 0, 0, 1)} {
		add(func(r *life.Rec) { r.Spec.Addr = a })
	}
	for _, w := range []float64{0, smallest, 0.1, 1, math.Nextafter(greatest, 0), greatest} {
		add(func(r *life.Rec) { r.Spec.Weight = w })
	}
	for n := range 16 {
		add(func(r *life.Rec) {
			r.Votes = make(votes, n+1)
			r.Votes[n].Stamp = 1
		})
		add(func(r *life.Rec) { r.Done = 1 << n })
	}
	for _, n := range []int{0, 65534, 65535} {
		add(func(r *life.Rec) { r.Done = n })
	}
	add(func(r *life.Rec) { r.Votes = votes{} })
	return l
}

// nothingElse: of Gen 0, each with one thing that is not 0.
func nothingElse() []life.Rec {
	var l []life.Rec
	add := func(change func(r *life.Rec)) { l = append(l, but(life.Rec{}, change)) }
	for _, n := range []int{math.MinInt, -1, 1, 2, 3, math.MaxInt} {
		add(func(r *life.Rec) { r.Life = n })
		add(func(r *life.Rec) { r.Spec.Stamp = int64(n) })
		add(func(r *life.Rec) { r.Spec.By = n })
		add(func(r *life.Rec) { r.Done = n })
	}
	for _, w := range []float64{minusZ(), smallest, -smallest, 1, inf(), math.Inf(-1), nan()} {
		add(func(r *life.Rec) { r.Spec.Weight = w })
	}
	for i := range 16 {
		add(func(r *life.Rec) { r.Spec.Addr.B[i] = 1 })
	}
	add(func(r *life.Rec) { r.Spec.Addr.V6 = true })
	add(func(r *life.Rec) { r.Votes = votes{{}} })
	add(func(r *life.Rec) { r.Votes = votes{{1, true}} })
	add(func(r *life.Rec) { r.Votes = make(votes, 100000) })
	return l
}

// wrongs: some that can't be, each by one fault.
func wrongs() []life.Rec {
	l := append(nothingElse(), but(simple(), func(r *life.Rec) { r.Gen = 0 }), but(full(), func(r *life.Rec) { r.Gen = 0 }))
	add := func(spoil func(r *life.Rec)) { l = append(l, but(simple(), spoil), but(full(), spoil)) }
	for _, n := range []int64{math.MinInt64, -api.MaxTicks, -1, api.MaxTicks + 1, 2 * api.MaxTicks, 1 << 48, math.MaxInt64} {
		add(func(r *life.Rec) { r.Gen = n })
		add(func(r *life.Rec) { r.Spec.Stamp = n })
		add(func(r *life.Rec) { r.Votes = votes{{n, false}} })
		add(func(r *life.Rec) { r.Votes = votes{{n, true}} })
		add(func(r *life.Rec) { r.Votes = votes{{n, false}, {1, true}} })
	}
	add(func(r *life.Rec) { r.Spec.Stamp = 0 })
	for _, n := range []int{math.MinInt, -1, 0, 4, 255, 257, math.MaxInt} {
		add(func(r *life.Rec) { r.Life = n })
	}
	for _, n := range []int{math.MinInt, -1, 16, 17, 256, math.MaxInt} {
		add(func(r *life.Rec) { r.Spec.By = n })
	}
	for i := 4; i < 16; i++ {
		add(func(r *life.Rec) {
			r.Spec.Addr = four(1)
			r.Spec.Addr.B[i] = 0x80
		})
	}
	for _, w := range []float64{minusZ(), -smallest, -1, -greatest, math.Inf(-1), inf(), nan(), -nan(), math.Float64frombits(0x7ff0<<48 | 1)} {
		add(func(r *life.Rec) { r.Spec.Weight = w })
	}
	for _, n := range []int{17, 18, 256, 100000} {
		add(func(r *life.Rec) { r.Votes = slices.Repeat(votes{{1, true}}, n) })
	}
	for _, l := range []votes{{{}}, {{0, true}}, {{1, true}, {}}, {{1, true}, {0, true}}, {{0, true}, {1, true}}, make(votes, 16), {{0, true}, {0, true}, {7, false}}} {
		add(func(r *life.Rec) { r.Votes = l })
	}
	for _, n := range []int{math.MinInt, -65535, -1, 65536, 65537, 1 << 32, math.MaxInt} {
		add(func(r *life.Rec) { r.Done = n })
	}
	return l
}

func TestRight(t *testing.T) {
	for _, r := range rights() {
		if !life.Right(r) {
			t.Errorf("%v can't be", r)
		}
	}
	for _, r := range wrongs() {
		if life.Right(r) {
			t.Errorf("%v can be", short(r))
		}
	}
}

// short: with no more votes than can be read.
func short(r life.Rec) life.Rec {
	r.Votes = r.Votes[:min(len(r.Votes), 20)]
	return r
}

// distinct: no two are alike in all; most can't be.
func distinct() []life.Rec {
	l := []life.Rec{{}, simple(), full()}
	add := func(change func(r *life.Rec)) { l = append(l, but(simple(), change)) }
	add(func(r *life.Rec) { r.Gen = 2 })
	add(func(r *life.Rec) { r.Gen = -1 })
	add(func(r *life.Rec) { r.Life = 2 })
	add(func(r *life.Rec) { r.Life = 77 })
	add(func(r *life.Rec) { r.Spec.Stamp = 6 })
	add(func(r *life.Rec) { r.Spec.By = 3 })
	add(func(r *life.Rec) { r.Spec.Addr.V6 = true })
	for i := range 16 {
		add(func(r *life.Rec) { r.Spec.Addr.B[i] ^= 1 })
	}
	for _, w := range []float64{minusZ(), 0, smallest, math.Nextafter(1, 2), greatest, inf(), math.Inf(-1), -1, nan()} {
		add(func(r *life.Rec) { r.Spec.Weight = w })
	}
	for _, v := range []votes{{{}}, {{}, {}}, {{1, true}}, {{1, false}}, {{2, false}}, {{0, true}}, {{1, true}, {}}, {{1, true}, {1, true}}, {{}, {1, true}}} {
		add(func(r *life.Rec) { r.Votes = v })
	}
	add(func(r *life.Rec) { r.Done = 1 })
	add(func(r *life.Rec) { r.Done = -1 })
	return l
}

func TestSame(t *testing.T) {
	l := distinct()
	for i, a := range l {
		for j, b := range l {
			b.Votes = slices.Clone(b.Votes)
			if life.Same(a, b) != (i == j) {
				t.Errorf("Same(%v, %v) = %t", a, b, life.Same(a, b))
			}
		}
	}
	some, none := simple(), simple()
	none.Votes = votes{}
	if !life.Same(some, none) || !life.Same(none, some) {
		t.Error("votes that are nil, and none, are not the same")
	}
	for _, w := range []float64{nan(), -nan(), math.Float64frombits(0x7ff0<<48 | 1), math.Float64frombits(0xfff8<<48 | 7)} { // all NaN are of one kind
		some.Spec.Weight, none.Spec.Weight = nan(), w
		if !life.Same(some, none) || !life.Same(none, some) {
			t.Errorf("weights %x and NaN are not the same", math.Float64bits(w))
		}
	}
}

// counts: how many replicas there may not be.
func counts() []int { return []int{math.MinInt, -1, 0, 17, 18, 64, 65, math.MaxInt} }

func TestWell(t *testing.T) {
	yes, no := life.Vote{Stamp: 3, Ok: true}, life.Vote{Stamp: 3}
	for _, c := range []struct {
		l     votes
		nodes int
		want  bool
	}{
		{nil, 1, true},
		{votes{}, 16, true},
		{votes{yes}, 1, true},
		{votes{no}, 1, false},
		{votes{no}, 2, false}, // twice one is two
		{votes{no}, 3, true},
		{votes{no, no}, 3, false},
		{votes{no, no}, 4, false},
		{votes{no, no}, 5, true},
		{votes{{}, no}, 1, true}, // of a replica that is not below nodes
		{votes{{}, no}, 2, false},
		{votes{yes, no}, 2, false},
		{votes{yes, no}, 3, true},
		{votes{{}, {}, no}, 2, true}, // a vote of stamp 0 is none
		{votes{{}, {}, no}, 3, true},
		{votes{no, {}, no}, 3, false},
		{votes{no, {}, no}, 4, false},
		{votes{no, yes, no, yes, no}, 5, false},
		{votes{no, yes, no, yes, yes}, 5, true},
		{append(slices.Repeat(votes{no}, 7), slices.Repeat(votes{yes}, 9)...), 16, true},
		{append(slices.Repeat(votes{no}, 8), slices.Repeat(votes{yes}, 8)...), 16, false},
		{append(slices.Repeat(votes{yes}, 8), slices.Repeat(votes{no}, 8)...), 16, false},
		{append(slices.Repeat(votes{yes}, 8), slices.Repeat(votes{no}, 8)...), 15, true},
		{append(slices.Repeat(votes{no}, 1), slices.Repeat(votes{yes}, 15)...), 1, false},
	} {
		for n := api.Active; n <= api.Released; n++ { // whatever its life is
			r := but(simple(), func(r *life.Rec) { r.Votes, r.Life = c.l, n })
			if life.Well(r, c.nodes) != c.want {
				t.Errorf("Well(%v, %d) = %t", c.l, c.nodes, !c.want)
			}
		}
	}
}

func TestOver(t *testing.T) {
	for nodes := 1; nodes <= 16; nodes++ {
		bits := 1<<nodes - 1
		for _, done := range []int{bits, 65535, bits | 1<<15} {
			if r := but(simple(), func(r *life.Rec) { r.Done = done }); !life.Over(r, nodes) {
				t.Errorf("Over of Done %x, %d = false", done, nodes)
			}
		}
		for i := range nodes {
			for _, done := range []int{bits &^ (1 << i), 65535 &^ (1 << i), 0} {
				if r := but(full(), func(r *life.Rec) { r.Done = done }); life.Over(r, nodes) {
					t.Errorf("Over of Done %x, %d = true", done, nodes)
				}
			}
		}
	}
}

func TestWellAndOverOfWhatCanNotBe(t *testing.T) {
	for _, r := range append(wrongs(), life.Rec{}) {
		for nodes := range 18 {
			if life.Well(r, nodes) || life.Over(r, nodes) {
				t.Errorf("%v, %d: Well %t, Over %t", short(r), nodes, life.Well(r, nodes), life.Over(r, nodes))
			}
		}
	}
	done := but(simple(), func(r *life.Rec) { r.Done = 65535 })
	for _, nodes := range counts() {
		if life.Well(done, nodes) || life.Over(done, nodes) {
			t.Errorf("of %d: Well %t, Over %t", nodes, life.Well(done, nodes), life.Over(done, nodes))
		}
	}
	if !life.Well(done, 16) || !life.Over(done, 16) {
		t.Error("of 16: not Well, or not Over")
	}
}

// someVotes: votes by chance that can be, of few stamps.
func someVotes(rnd *rand.Rand) votes {
	var l votes
	for range rnd.Intn(6) {
		l = append(l, life.Vote{})
		if rnd.Intn(3) > 0 {
			l[len(l)-1] = life.Vote{Stamp: int64(1 + rnd.Intn(3)), Ok: rnd.Intn(2) == 0}
		}
	}
	for len(l) > 0 && l[len(l)-1].Stamp == 0 {
		l = l[:len(l)-1]
	}
	return l
}

// some: one by chance that can be, of few numbers, so that those of several are often alike.
func some(rnd *rand.Rand) life.Rec {
	switch rnd.Intn(8) {
	case 0:
		return life.Rec{}
	case 1:
		l := rights()
		return l[rnd.Intn(len(l))]
	}
	addrs := []api.Addr{four(1), four(2), four(0, 9), six(1), six(0, 0, 0, 0, 0, 0, 1)}
	weights := []float64{0, smallest, 1, 2, greatest}
	return life.Rec{
		Gen:   int64(1 + rnd.Intn(12)/5),
		Life:  1 + rnd.Intn(3),
		Spec:  life.Spec{Stamp: int64(1 + rnd.Intn(3)), By: rnd.Intn(3), Addr: addrs[rnd.Intn(len(addrs))], Weight: weights[rnd.Intn(len(weights))]},
		Votes: someVotes(rnd),
		Done:  rnd.Intn(1 << (1 + rnd.Intn(16))),
	}
}

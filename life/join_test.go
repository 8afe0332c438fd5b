package life_test

import (
	"bytes"
	"encoding/binary"
	"math"
	"math/rand"
	"slices"
	"testing"

	"steelyard/api"
	"steelyard/life"
)

// joined fails unless Join is this, whichever comes first.
func joined(t *testing.T, a, b, want life.Rec) {
	t.Helper()
	for range 2 {
		if r, e := life.Join(a, b); !life.Same(r, want) || e != api.OK {
			t.Errorf("Join(%v, %v) = %v, %d, want %v", a, b, r, e, want)
		}
		a, b = b, a
	}
}

// TestJoin is the document's example, and what it leaves out.
func TestJoin(t *testing.T) {
	a := life.Rec{Gen: 1, Life: api.Active, Spec: life.Spec{Stamp: 5}, Votes: votes{{2, true}, {}, {9, false}}, Done: 5}
	b := life.Rec{Gen: 1, Life: api.Draining, Spec: life.Spec{Stamp: 4, By: 15, Addr: six(255), Weight: 9}, Votes: votes{{1, false}, {3, true}}, Done: 6}
	joined(t, a, b, life.Rec{Gen: 1, Life: api.Draining, Spec: life.Spec{Stamp: 5}, Votes: votes{{2, true}, {3, true}, {9, false}}, Done: 7})
	c := life.Rec{Gen: 2, Life: api.Active, Spec: life.Spec{Stamp: 1}}
	joined(t, a, c, c)
	joined(t, b, c, c)
	joined(t, full(), c, full())
	for _, r := range rights() {
		joined(t, r, life.Rec{}, r)
		joined(t, r, r, r)
	}
}

// TestJoinOfLives: the greater one.
func TestJoinOfLives(t *testing.T) {
	for a := api.Active; a <= api.Released; a++ {
		for b := api.Active; b <= api.Released; b++ {
			of := func(n int) life.Rec { return but(simple(), func(r *life.Rec) { r.Life = n }) }
			joined(t, of(a), of(b), of(max(a, b)))
		}
	}
}

// TestJoinOfSpecs: each of these is ahead of all behind it, by a field that counts more than those in which it would be behind.
func TestJoinOfSpecs(t *testing.T) {
	low, high := four(1), six(2)
	l := []life.Spec{
		{1, 15, high, greatest},
		{2, 0, high, greatest},
		{2, 1, low, 9},
		{2, 1, low, greatest},
		{2, 1, four(1, 0, 0, 1), 0},
		{2, 1, four(255), smallest},
		{2, 1, six(), 0},
		{2, 1, six(), smallest},
		{2, 1, six(), 1},
		{2, 1, six(0, 0, 0, 0, 0, 0, 0, 0, 0, 0, 0, 0, 0, 0, 0, 1), 0},
		{2, 1, high, 0},
		{2, 2, low, 0},
		{2, 15, low, 0},
		{3, 0, low, 0},
		{api.MaxTicks, 0, four(), 0},
	}
	for i, a := range l {
		for j, b := range l {
			of := func(s life.Spec) life.Rec { return but(simple(), func(r *life.Rec) { r.Spec = s }) }
			joined(t, of(a), of(b), of(l[max(i, j)]))
		}
	}
}

// TestJoinOfVotes: each of these is ahead of all behind it, at whichever replica.
func TestJoinOfVotes(t *testing.T) {
	l := votes{{}, {1, true}, {1, false}, {2, true}, {2, false}, {api.MaxTicks, true}, {api.MaxTicks, false}}
	for i, v := range l {
		for j, w := range l {
			for node := range 16 {
				joined(t, voteAlone(node, v), voteAlone(node, w), voteAlone(node, l[max(i, j)]))
			}
		}
	}
	joined(t, voteAlone(3, life.Vote{Stamp: 1}), voteAlone(0, life.Vote{Stamp: 1, Ok: true}), but(simple(), func(r *life.Rec) { r.Votes = votes{{1, true}, {}, {}, {1, false}} }))
}

// voteAlone: a backend with the vote of one replica alone.
func voteAlone(node int, v life.Vote) life.Rec {
	if v.Stamp == 0 {
		return simple()
	}
	return but(simple(), func(r *life.Rec) {
		r.Votes = make(votes, node+1)
		r.Votes[node] = v
	})
}

// key: bytes that stand as a Spec that can be does.
func key(s life.Spec) []byte {
	var b []byte
	b = binary.BigEndian.AppendUint64(b, uint64(s.Stamp))
	b = append(b, byte(s.By))
	if s.Addr.V6 {
		b = append(b, 1)
	} else {
		b = append(b, 0)
	}
	b = append(b, s.Addr.B[:]...)
	return binary.BigEndian.AppendUint64(b, math.Float64bits(s.Weight))
}

// plainJoin is Join by the document's words, of two that can be: what is there of both is put in a row, and the last one taken.
func plainJoin(a, b life.Rec) life.Rec {
	both := []life.Rec{a, b}
	slices.SortFunc(both, func(x, y life.Rec) int { return int(x.Gen - y.Gen) })
	if a.Gen != b.Gen {
		return both[1]
	}
	slices.SortFunc(both, func(x, y life.Rec) int { return bytes.Compare(key(x.Spec), key(y.Spec)) })
	r := life.Rec{Gen: a.Gen, Life: slices.Max([]int{a.Life, b.Life}), Spec: both[1].Spec}
	for bit := 1; bit < 1<<16; bit *= 2 {
		if a.Done&bit != 0 || b.Done&bit != 0 {
			r.Done += bit
		}
	}
	best := map[int]int64{} // twice the stamp, and 1 of one that is not Ok
	last := -1
	for _, l := range []votes{a.Votes, b.Votes} {
		for i, v := range l {
			n := 2 * v.Stamp
			if !v.Ok && n > 0 {
				n++
			}
			best[i] = max(best[i], n)
			last = max(last, i)
		}
	}
	for i := range last + 1 {
		r.Votes = append(r.Votes, life.Vote{Stamp: best[i] / 2, Ok: best[i] > 0 && best[i]%2 == 0})
	}
	return r
}

// TestJoinByChance holds Join against the plain one, Within against Join, and is P12.4 of two, and P12.5.
func TestJoinByChance(t *testing.T) {
	rnd := rand.New(rand.NewSource(1))
	within := 0
	for range 20000 {
		a, b := some(rnd), some(rnd)
		if rnd.Intn(3) == 0 {
			b, _ = life.Join(a, b)
		}
		want := plainJoin(a, b)
		joined(t, a, b, want)
		joined(t, a, a, a)
		r, _ := life.Join(a, b)
		if !life.Right(r) || !life.Within(a, r) || !life.Within(b, r) || !life.Within(r, r) {
			t.Fatalf("Join(%v, %v) = %v, and not both are within", a, b, r)
		}
		if life.Within(a, b) != life.Same(want, b) || life.Within(b, a) != life.Same(want, a) || life.Within(r, a) != life.Same(r, a) {
			t.Fatalf("Within(%v, %v) = %t, the other way %t", a, b, life.Within(a, b), life.Within(b, a))
		}
		if life.Within(a, b) {
			within++
		}
		neverFalls(t, a, r)
		neverFalls(t, b, r)
		if t.Failed() {
			return
		}
	}
	if within < 2000 {
		t.Errorf("only %d were within", within)
	}
}

// neverFalls fails unless Gen, and of one Gen Life and Done, have not fallen.
func neverFalls(t *testing.T, was, is life.Rec) {
	t.Helper()
	if is.Gen < was.Gen || is.Gen == was.Gen && (is.Life < was.Life || is.Done < was.Done || is.Done&was.Done != was.Done) {
		t.Fatalf("%v has become %v", was, is)
	}
}

// together: all joined, one behind the other.
func together(t *testing.T, l []life.Rec) life.Rec {
	t.Helper()
	var r life.Rec
	for _, x := range l {
		var e api.Errno
		if r, e = life.Join(r, x); e != api.OK {
			t.Fatalf("Join of %v: %d", x, e)
		}
	}
	return r
}

// TestAnyOrder is P12.4 of many: in whatever order, some of them twice, some joined with one another ahead.
func TestAnyOrder(t *testing.T) {
	rnd := rand.New(rand.NewSource(2))
	for range 2000 {
		var l []life.Rec
		for range 1 + rnd.Intn(6) {
			l = append(l, some(rnd))
		}
		want := together(t, l)
		for range 4 {
			other := slices.Clone(l)
			for range rnd.Intn(4) {
				other = append(other, l[rnd.Intn(len(l))])
			}
			rnd.Shuffle(len(other), func(i, j int) { other[i], other[j] = other[j], other[i] })
			at := rnd.Intn(len(other) + 1)
			halves, e := life.Join(together(t, other[:at]), together(t, other[at:]))
			if !life.Same(halves, want) || e != api.OK || !life.Same(together(t, other), want) {
				t.Fatalf("%v joined is %v, in another order %v, %v", l, want, halves, together(t, other))
			}
		}
		for _, x := range l {
			if !life.Within(x, want) {
				t.Fatalf("%v is not within %v", x, want)
			}
		}
	}
}

func TestJoinOfWhatCanNotBe(t *testing.T) {
	good := []life.Rec{{}, simple(), full()}
	for _, bad := range wrongs() {
		for _, r := range append(good, bad) {
			for _, two := range [][2]life.Rec{{bad, r}, {r, bad}} {
				if x, e := life.Join(two[0], two[1]); !life.Same(x, life.Rec{}) || e != api.ErrArg {
					t.Fatalf("Join(%v, %v) = %v, %d", short(two[0]), short(two[1]), x, e)
				}
				if life.Within(two[0], two[1]) {
					t.Fatalf("%v is within %v", short(two[0]), short(two[1]))
				}
			}
		}
	}
}

func TestWithin(t *testing.T) {
	r := simple()
	more := []life.Rec{
		but(r, func(r *life.Rec) { r.Gen = 2 }),
		but(r, func(r *life.Rec) { r.Life = api.Draining }),
		but(r, func(r *life.Rec) { r.Spec.Stamp = 6 }),
		but(r, func(r *life.Rec) { r.Spec.By = 3 }),
		but(r, func(r *life.Rec) { r.Spec.Addr.B[3] = 3 }),
		but(r, func(r *life.Rec) { r.Spec.Weight = 1.5 }),
		but(r, func(r *life.Rec) { r.Votes = votes{{1, true}} }),
		but(r, func(r *life.Rec) { r.Done = 1 }),
	}
	for _, x := range more {
		if !life.Within(r, x) || life.Within(x, r) || !life.Within(x, x) || !life.Within(life.Rec{}, x) || life.Within(x, life.Rec{}) {
			t.Errorf("%v: Within %t, %t, of itself %t, of nothing %t, %t", x, life.Within(r, x), life.Within(x, r), life.Within(x, x), life.Within(life.Rec{}, x), life.Within(x, life.Rec{}))
		}
	}
	for i, x := range more[1:] { // neither knows what the other one does
		for j, y := range more[1:] {
			if spec := func(i int) bool { return i >= 1 && i <= 4 }; !(spec(i) && spec(j)) && life.Within(x, y) != (i == j) {
				t.Errorf("Within(%v, %v) = %t", x, y, life.Within(x, y))
			}
		}
	}
	if !life.Within(life.Rec{}, life.Rec{}) {
		t.Error("nothing is not within nothing")
	}
}

func TestVoted(t *testing.T) {
	given := votes{{4, true}, {}, {7, false}}
	for _, c := range []struct {
		node int
		v    life.Vote
		want votes
	}{
		{0, life.Vote{Stamp: 5}, votes{{5, false}, {}, {7, false}}},
		{0, life.Vote{Stamp: 4}, votes{{4, false}, {}, {7, false}}}, // of one stamp who finds it not well has the word
		{0, life.Vote{Stamp: 4, Ok: true}, given},
		{0, life.Vote{Stamp: 3}, given}, // too late
		{1, life.Vote{Stamp: 1, Ok: true}, votes{{4, true}, {1, true}, {7, false}}},
		{2, life.Vote{Stamp: 7, Ok: true}, given},
		{2, life.Vote{Stamp: 8, Ok: true}, votes{{4, true}, {}, {8, true}}},
		{3, life.Vote{Stamp: api.MaxTicks}, votes{{4, true}, {}, {7, false}, {api.MaxTicks, false}}},
		{5, life.Vote{Stamp: 1}, votes{{4, true}, {}, {7, false}, {}, {}, {1, false}}},
		{15, life.Vote{Stamp: 2, Ok: true}, append(slices.Clone(given), append(make(votes, 12), life.Vote{Stamp: 2, Ok: true})...)},
	} {
		for n := api.Active; n <= api.Released; n++ {
			of := func(l votes) life.Rec {
				return but(simple(), func(r *life.Rec) { r.Votes, r.Life, r.Done = l, n, 9 })
			}
			if r, e := life.Voted(of(given), c.node, c.v); !life.Same(r, of(c.want)) || e != api.OK {
				t.Errorf("Voted(%v, %d, %v) = %v, %d", given, c.node, c.v, r, e)
			}
		}
	}
}

// TestVotedGrows: what was known is within it, and so is the vote.
func TestVotedGrows(t *testing.T) {
	rnd := rand.New(rand.NewSource(3))
	for range 5000 {
		r, node, v := some(rnd), rnd.Intn(16), life.Vote{Stamp: int64(1 + rnd.Intn(4)), Ok: rnd.Intn(2) == 0}
		if r.Gen == 0 {
			continue
		}
		x, e := life.Voted(r, node, v)
		alone := but(r, func(r *life.Rec) { r.Votes = append(make(votes, node), v) })
		if want := plainJoin(r, alone); !life.Same(x, want) || e != api.OK || !life.Within(r, x) || !life.Within(alone, x) {
			t.Fatalf("Voted(%v, %d, %v) = %v, %d, want %v", r, node, v, x, e, want)
		}
	}
}

// notVoted fails unless Voted answers this error and nothing else.
func notVoted(t *testing.T, r life.Rec, node int, v life.Vote, want api.Errno) {
	t.Helper()
	if x, e := life.Voted(r, node, v); !life.Same(x, life.Rec{}) || e != want {
		t.Errorf("Voted(%v, %d, %v) = %v, %d, want %d", short(r), node, v, x, e, want)
	}
}

func TestVotedOfWhatCanNotBe(t *testing.T) {
	v := life.Vote{Stamp: 1, Ok: true}
	for _, r := range wrongs() {
		notVoted(t, r, 0, v, api.ErrArg)
	}
	for _, r := range []life.Rec{{}, simple(), full()} { // of nothing, too: ErrArg is named ahead of ErrState
		for _, node := range []int{math.MinInt, -1, 16, 17, math.MaxInt} {
			notVoted(t, r, node, v, api.ErrArg)
		}
		for _, stamp := range []int64{math.MinInt64, -1, 0, api.MaxTicks + 1, 1 << 48, math.MaxInt64} {
			notVoted(t, r, 3, life.Vote{Stamp: stamp}, api.ErrArg)
			notVoted(t, r, 3, life.Vote{Stamp: stamp, Ok: true}, api.ErrArg)
		}
	}
	for node := range 16 {
		notVoted(t, life.Rec{}, node, v, api.ErrState)
		notVoted(t, life.Rec{}, node, life.Vote{Stamp: api.MaxTicks}, api.ErrState)
	}
}

// TestJoinSharesNothing: what is handed in isn't changed or kept, and no votes that are answered share memory with others.
func TestJoinSharesNothing(t *testing.T) {
	older := but(full(), func(r *life.Rec) { r.Gen = 1 })
	empty := but(full(), func(r *life.Rec) { r.Votes = nil })
	for _, two := range [][2]life.Rec{{full(), full()}, {full(), empty}, {empty, full()}, {full(), older}, {older, full()}, {full(), life.Rec{}}, {life.Rec{}, full()}} {
		a, b := but(two[0], func(*life.Rec) {}), but(two[1], func(*life.Rec) {})
		x, _ := life.Join(a, b)
		y, _ := life.Join(a, b)
		if !life.Same(a, two[0]) || !life.Same(b, two[1]) {
			t.Fatalf("behind Join: %v, %v", a, b)
		}
		clear(a.Votes)
		clear(b.Votes)
		clear(x.Votes[:cap(x.Votes)])
		if !slices.Equal(y.Votes, full().Votes) {
			t.Errorf("behind changes: %v", y.Votes)
		}
	}
	a := full()
	x, _ := life.Voted(a, 0, life.Vote{Stamp: 1})
	y, _ := life.Voted(a, 15, life.Vote{Stamp: 1})
	clear(a.Votes)
	clear(x.Votes)
	if !slices.Equal(y.Votes, full().Votes) {
		t.Errorf("behind changes: %v", y.Votes)
	}
}

package pool_test

import (
	"math/rand"
	"slices"
	"testing"

	"steelyard/api"
	"steelyard/life"
	"steelyard/pool"
)

// world is some replicas' pools, and what was told by any of them.
type world struct {
	rnd   *rand.Rand
	pools []*pool.Pool
	told  []pool.Update
	dones map[[2]int64]int // of a backend and a Gen whose Done was told while it was Draining there
}

func newWorld(t *testing.T, rnd *rand.Rand, nodes int) *world {
	t.Helper()
	w := &world{rnd: rnd, dones: map[[2]int64]int{}}
	for me := range nodes {
		w.pools = append(w.pools, made(t, me, nodes))
	}
	return w
}

// step: somebody does something, or hears of something that was told at any time before.
func (w *world) step(t *testing.T) {
	t.Helper()
	me, backend := w.rnd.Intn(len(w.pools)), w.rnd.Intn(3)
	p := w.pools[me]
	was := known(p)
	var u pool.Update
	e := api.ErrNone
	switch n := w.rnd.Intn(16); {
	case n < 3:
		u, e = p.Do(api.Cmd{Kind: 1 + n/2, Backend: backend, Addr: four(10, byte(w.rnd.Intn(3))), Weight: float64(w.rnd.Intn(3))})
	case n < 4:
		u, e = p.Vote(backend, w.rnd.Intn(2) == 0)
	case n < 7:
		if u, e = p.Done(backend); e == api.OK {
			w.dones[[2]int64{int64(backend), u.Rec.Gen}] |= 1 << me
		}
	case n < 8:
		w.told = append(w.told, p.Settle()...)
	case len(w.told) > 0:
		w.hears(t, p, w.told[w.rnd.Intn(len(w.told))])
	}
	if e == api.OK {
		w.told = append(w.told, u)
	}
	grown(t, was, p)
}

// hears: a pool is told something.
func (w *world) hears(t *testing.T, p *pool.Pool, u pool.Update) {
	t.Helper()
	was := p.Get(u.Backend)
	is, e := p.Merge(u)
	if now := p.Get(u.Backend); e != api.OK || !life.Within(u.Rec, now) || is == life.Same(was, now) {
		t.Fatalf("Merge(%v) = %t, %d: %v becomes %v", u, is, e, was, now)
	}
}

// grown fails unless what was known is within what is.
func grown(t *testing.T, was []pool.Update, p *pool.Pool) {
	t.Helper()
	for _, u := range was {
		if !life.Within(u.Rec, p.Get(u.Backend)) {
			t.Fatalf("%v is not within %v", u, p.Get(u.Backend))
		}
	}
}

// released fails unless all have told Done of each backend that is Released anywhere; it answers how many are.
func (w *world) released(t *testing.T) int {
	t.Helper()
	n, all := 0, 1<<len(w.pools)-1
	for _, p := range w.pools {
		for backend, r := range p.All() {
			if r.Life != api.Released {
				continue
			}
			if n++; w.dones[[2]int64{int64(backend), r.Gen}] != all {
				t.Fatalf("%d of Gen %d is Released, but Done was told by %b alone", backend, r.Gen, w.dones[[2]int64{int64(backend), r.Gen}])
			}
		}
	}
	return n
}

// TestReleased is P13.8, of what pools tell, late, doubled or lost; and what they know never falls (P13.6).
func TestReleased(t *testing.T) {
	rnd := rand.New(rand.NewSource(2))
	n, gens := 0, int64(0)
	for i := range 200 {
		w := newWorld(t, rnd, 1+i%4)
		for range 250 {
			w.step(t)
			n += w.released(t)
		}
		for _, u := range w.told {
			gens = max(gens, u.Rec.Gen)
		}
	}
	if n < 1000 || gens < 4 {
		t.Errorf("only %d were Released, up to Gen %d", n, gens)
	}
}

// TestAnyOrder is P13.6: the same updates in whatever order, some of them more than once, some by others that were told them.
func TestAnyOrder(t *testing.T) {
	rnd := rand.New(rand.NewSource(3))
	for i := range 100 {
		w := newWorld(t, rnd, 1+i%5)
		for range 150 {
			w.step(t)
		}
		want := made(t, 0, 5)
		for _, u := range w.told {
			w.hears(t, want, u)
		}
		for range 5 {
			l := slices.Clone(w.told)
			for range rnd.Intn(20) {
				l = append(l, l[rnd.Intn(len(l))])
			}
			rnd.Shuffle(len(l), func(i, j int) { l[i], l[j] = l[j], l[i] })
			p, other := made(t, 1, 2), made(t, 15, 16)
			for _, u := range l {
				if rnd.Intn(3) == 0 {
					w.hears(t, other, u)
				} else {
					w.hears(t, p, u)
				}
			}
			for _, u := range other.Lacks(nil) {
				w.hears(t, p, u)
			}
			if !p.Same(want) || !alike(known(p), known(want)) || !slices.Equal(p.Marks(), want.Marks()) {
				t.Fatalf("%v, in another order %v", known(want), known(p))
			}
		}
	}
}

// exchange: each one merges what it lacks of the other one.
func exchange(t testing.TB, p, q *pool.Pool) {
	t.Helper()
	for range 2 {
		for _, u := range q.Lacks(p.Marks()) {
			if _, e := p.Merge(u); e != api.OK {
				t.Fatalf("Merge(%v): %d", u, e)
			}
		}
		p, q = q, p
	}
}

// TestExchange is P13.7, and P2 of pools: who has heard of all knows the same, and has the same table.
func TestExchange(t *testing.T) {
	rnd := rand.New(rand.NewSource(4))
	for i := range 200 {
		w := newWorld(t, rnd, 2+i%4)
		for range rnd.Intn(150) {
			w.step(t)
		}
		p, q := w.pools[0].Copy(), w.pools[1].Copy()
		toP, toQ := q.Lacks(p.Marks()), p.Lacks(q.Marks()) // both ahead of either's merging
		for _, u := range toP {
			w.hears(t, p, u)
		}
		for _, u := range toQ {
			w.hears(t, q, u)
		}
		if !p.Same(q) || len(p.Lacks(q.Marks())) != 0 || len(q.Lacks(p.Marks())) != 0 {
			t.Fatalf("%v, the other one %v", known(p), known(q))
		}
		exchange(t, w.pools[0], w.pools[1])
		if !w.pools[0].Same(p) || !w.pools[1].Same(p) {
			t.Fatalf("%v, the other one %v, want %v", known(w.pools[0]), known(w.pools[1]), known(p))
		}
		w.meet(t)
	}
}

// meet: each one tells the next one, twice around; then all that was told is known to all, joined.
func (w *world) meet(t *testing.T) {
	t.Helper()
	for i := range 2 * len(w.pools) {
		exchange(t, w.pools[i%len(w.pools)], w.pools[(i+1)%len(w.pools)])
	}
	want := made(t, 0, len(w.pools))
	for _, u := range w.told {
		w.hears(t, want, u)
	}
	table, e := want.Table(13)
	for _, p := range w.pools {
		mine, f := p.Table(13)
		if !p.Same(want) || !slices.Equal(mine, table) || f != e {
			t.Fatalf("%v, %v; want %v, %v", known(p), mine, known(want), table)
		}
	}
}

package pool_test

import (
	"math"
	"slices"
	"testing"

	"steelyard/api"
	"steelyard/life"
	"steelyard/pool"
)

const (
	greatest = math.MaxFloat64
	smallest = math.SmallestNonzeroFloat64
)

func nan() float64    { return math.NaN() }
func inf() float64    { return math.Inf(1) }
func minusZ() float64 { return math.Copysign(0, -1) }

// four, six: addresses of these bytes, with 0 behind them.
func four(b ...byte) api.Addr {
	var a api.Addr
	copy(a.B[:], b)
	return a
}

func six(b ...byte) api.Addr {
	a := four(b...)
	a.V6 = true
	return a
}

type votes = []life.Vote

// yes, no: votes of these stamps.
func yes(stamp int64) life.Vote { return life.Vote{Stamp: stamp, Ok: true} }
func no(stamp int64) life.Vote  { return life.Vote{Stamp: stamp} }

// simple is a backend that has just come, and full one of which all that there may be is known.
func simple() life.Rec {
	return life.Rec{Gen: 1, Life: api.Active, Spec: life.Spec{Stamp: 5, By: 2, Addr: four(10, 1, 0, 2), Weight: 1}}
}

func full() life.Rec {
	r := life.Rec{Gen: 7, Life: api.Draining, Done: 65535}
	r.Spec = life.Spec{Stamp: 1000, By: 15, Addr: six(0xfd, 1, 2, 3, 4, 5, 6, 7, 8, 9, 10, 11, 12, 13, 14, 15), Weight: greatest}
	for i := range int64(16) {
		r.Votes = append(r.Votes, life.Vote{Stamp: 100 + i, Ok: i%3 == 0})
	}
	return r
}

// but: a Rec with one change.
func but(r life.Rec, change func(r *life.Rec)) life.Rec {
	r.Votes = slices.Clone(r.Votes)
	change(&r)
	return r
}

// lived: the simple one in another life.
func lived(n int) life.Rec {
	return but(simple(), func(r *life.Rec) { r.Life = n })
}

// wrongs: some that can't be, and nothing.
func wrongs() []life.Rec {
	l := []life.Rec{{}, {Life: api.Active}, {Done: 1}, {Votes: votes{yes(1)}}}
	for _, change := range []func(r *life.Rec){
		func(r *life.Rec) { r.Gen = -1 },
		func(r *life.Rec) { r.Gen = 0 },
		func(r *life.Rec) { r.Gen = api.MaxTicks + 1 },
		func(r *life.Rec) { r.Life = 0 },
		func(r *life.Rec) { r.Life = 4 },
		func(r *life.Rec) { r.Spec.Stamp = 0 },
		func(r *life.Rec) { r.Spec.Stamp = api.MaxTicks + 1 },
		func(r *life.Rec) { r.Spec.By = 16 },
		func(r *life.Rec) { r.Spec.Addr = four(0, 0, 0, 0, 1) },
		func(r *life.Rec) { r.Spec.Weight = nan() },
		func(r *life.Rec) { r.Spec.Weight = inf() },
		func(r *life.Rec) { r.Spec.Weight = minusZ() },
		func(r *life.Rec) { r.Votes = votes{{}} },
		func(r *life.Rec) { r.Votes = votes{yes(api.MaxTicks + 1)} },
		func(r *life.Rec) { r.Votes = slices.Repeat(votes{yes(1)}, 17) },
		func(r *life.Rec) { r.Done = 65536 },
		func(r *life.Rec) { r.Done = -1 },
	} {
		l = append(l, but(simple(), change), but(full(), change))
	}
	return l
}

// noBackends: numbers that no backend has.
func noBackends() []int {
	return []int{math.MinInt, -32, -1, 32, 33, 255, 1 << 32, 1<<32 + 3, math.MaxInt}
}

// made: a pool that knows nothing.
func made(t testing.TB, me, nodes int) *pool.Pool {
	t.Helper()
	p, e := pool.New(me, nodes)
	if p == nil || e != api.OK {
		t.Fatalf("New(%d, %d) = %v, %d", me, nodes, p, e)
	}
	return p
}

// merged fails unless Merge answers so.
func merged(t testing.TB, p *pool.Pool, backend int, r life.Rec, is bool) {
	t.Helper()
	if got, e := p.Merge(pool.Update{Backend: backend, Rec: r}); got != is || e != api.OK {
		t.Fatalf("Merge(%d, %v) = %t, %d", backend, r, got, e)
	}
}

// of: a pool that has heard this of the backend 3.
func of(t testing.TB, me, nodes int, l ...life.Rec) *pool.Pool {
	t.Helper()
	p := made(t, me, nodes)
	for _, r := range l {
		merged(t, p, 3, r, true)
	}
	return p
}

// answered fails unless a call answered this, which is what is known then, and the clock stands there.
func answered(t testing.TB, p *pool.Pool, u pool.Update, e api.Errno, backend int, want life.Rec, clock int64) {
	t.Helper()
	if u.Backend != backend || !life.Same(u.Rec, want) || e != api.OK {
		t.Fatalf("%v, %d; want %d, %v", u, e, backend, want)
	}
	if r := p.Get(backend); !life.Same(r, want) || p.Clock() != clock {
		t.Fatalf("known is %v at %d; want %v at %d", r, p.Clock(), want, clock)
	}
}

// refused fails unless a call answered that error alone, and has changed nothing.
func refused(t testing.TB, p *pool.Pool, call func() (pool.Update, api.Errno), want api.Errno) {
	t.Helper()
	was := p.Copy()
	u, e := call()
	if u.Backend != 0 || !life.Same(u.Rec, life.Rec{}) || e != want {
		t.Errorf("%v, %d; want %d", u, e, want)
	}
	if !p.Same(was) || p.Clock() != was.Clock() {
		t.Errorf("%v at %d has become %v at %d", known(was), was.Clock(), known(p), p.Clock())
	}
}

// known: what All goes through.
func known(p *pool.Pool) []pool.Update {
	var l []pool.Update
	for backend, r := range p.All() {
		l = append(l, pool.Update{Backend: backend, Rec: r})
	}
	return l
}

// alike: are these the same of the same?
func alike(a, b []pool.Update) bool {
	return slices.EqualFunc(a, b, func(x, y pool.Update) bool {
		return x.Backend == y.Backend && life.Same(x.Rec, y.Rec)
	})
}

func TestNew(t *testing.T) {
	for nodes := 1; nodes <= 16; nodes++ {
		for me := range nodes {
			p := made(t, me, nodes)
			if p.Clock() != 0 || len(known(p)) != 0 || len(p.Marks()) != 0 || len(p.Lacks(nil)) != 0 || len(p.Settle()) != 0 {
				t.Errorf("New(%d, %d) is at %d and knows %v", me, nodes, p.Clock(), known(p))
			}
			for backend := range 32 {
				if r := p.Get(backend); !life.Same(r, life.Rec{}) || p.Takes(backend) {
					t.Errorf("New(%d, %d) knows %v of %d", me, nodes, r, backend)
				}
			}
			if table, e := p.Table(7); len(table) != 0 || e != api.ErrNone {
				t.Errorf("New(%d, %d) has the table %v, %d", me, nodes, table, e)
			}
		}
	}
	for _, c := range [][2]int{
		{0, 0}, {0, -1}, {0, 17}, {0, math.MinInt}, {0, math.MaxInt}, {-1, 0}, {16, 17}, {16, 16}, {17, 16}, {1, 1}, {3, 3}, {4, 3},
		{-1, 1}, {-1, 16}, {math.MinInt, 3}, {math.MaxInt, 3}, {1 << 32, 3}, {0, 1 << 32}, {0, 1<<32 + 1},
	} {
		if p, e := pool.New(c[0], c[1]); p != nil || e != api.ErrArg {
			t.Errorf("New(%d, %d) = %v, %d", c[0], c[1], p, e)
		}
	}
}

// TestOfNil: ErrNil goes ahead of all other errors.
func TestOfNil(t *testing.T) {
	var p *pool.Pool
	for _, backend := range append(noBackends(), 0, 3, 31) {
		_, a := p.Do(api.Cmd{Kind: api.CmdAdd, Backend: backend})
		_, b := p.Do(api.Cmd{Kind: api.CmdDrain, Backend: backend})
		_, c := p.Vote(backend, true)
		_, d := p.Done(backend)
		is, e := p.Merge(pool.Update{Backend: backend, Rec: simple()})
		_, f := p.Merge(pool.Update{Backend: backend})
		for i, got := range []api.Errno{a, b, c, d, e, f} {
			if got != api.ErrNil {
				t.Errorf("call %d of %d: %d", i, backend, got)
			}
		}
		if r := p.Get(backend); is || !life.Same(r, life.Rec{}) || p.Takes(backend) {
			t.Errorf("of %d: Merge %t, Get %v, Takes %t", backend, is, r, p.Takes(backend))
		}
	}
	if p.Clock() != 0 || len(known(p)) != 0 || len(p.Marks()) != 0 || len(p.Lacks(nil)) != 0 || len(p.Lacks([]pool.Mark{{Backend: 3}})) != 0 || len(p.Settle()) != 0 || p.Copy() != nil {
		t.Error("nil is something")
	}
	for _, slots := range []int{-1, 0, 6, 7, 1021, math.MaxInt} {
		if table, e := p.Table(slots); len(table) != 0 || e != api.ErrNil {
			t.Errorf("Table(%d) = %v, %d", slots, table, e)
		}
	}
	q := made(t, 0, 1)
	if !p.Same(nil) || p.Same(q) || q.Same(nil) || !q.Same(q) {
		t.Error("Same of nil")
	}
}

// TestOfNoNew: one that New did not make knows nothing, of no replicas, and panics at nothing.
func TestOfNoNew(t *testing.T) {
	p := new(pool.Pool)
	refused(t, p, func() (pool.Update, api.Errno) { return p.Vote(3, true) }, api.ErrNone)
	refused(t, p, func() (pool.Update, api.Errno) { return p.Done(3) }, api.ErrNone)
	refused(t, p, func() (pool.Update, api.Errno) { return p.Do(api.Cmd{Kind: api.CmdDrain, Backend: 3}) }, api.ErrNone)
	if !p.Same(made(t, 0, 1)) || len(known(p.Copy())) != 0 {
		t.Error("it knows something")
	}
	merged(t, p, 3, but(full(), func(r *life.Rec) { r.Gen = 1 }), true)
	if l := p.Settle(); len(l) != 0 || p.Takes(3) {
		t.Errorf("Settle = %v", l)
	}
}

// TestExample is the document's.
func TestExample(t *testing.T) {
	p := made(t, 0, 1)
	u, e := p.Do(api.Cmd{Kind: api.CmdAdd, Backend: 3, Addr: four(10, 1, 0, 3), Weight: 2})
	r := life.Rec{Gen: 1, Life: api.Active, Spec: life.Spec{Stamp: 1, Addr: four(10, 1, 0, 3), Weight: 2}}
	answered(t, p, u, e, 3, r, 1)
	u, e = p.Do(api.Cmd{Kind: api.CmdDrain, Backend: 3})
	r.Life = api.Draining
	answered(t, p, u, e, 3, r, 1)
	u, e = p.Done(3)
	r.Done = 1
	answered(t, p, u, e, 3, r, 1)
	r.Life = api.Released
	if l := p.Settle(); !alike(l, []pool.Update{{Backend: 3, Rec: r}}) || !life.Same(p.Get(3), r) {
		t.Fatalf("Settle = %v", l)
	}
	u, e = p.Do(api.Cmd{Kind: api.CmdAdd, Backend: 3, Addr: six(1)})
	answered(t, p, u, e, 3, life.Rec{Gen: 2, Life: api.Active, Spec: life.Spec{Stamp: 2, Addr: six(1)}}, 2)
}

func TestGet(t *testing.T) {
	p := of(t, 0, 3, full())
	for _, backend := range append(noBackends(), 0, 2, 4, 31) {
		if r := p.Get(backend); !life.Same(r, life.Rec{}) {
			t.Errorf("Get(%d) = %v", backend, r)
		}
	}
	if r := p.Get(3); !life.Same(r, full()) {
		t.Errorf("Get(3) = %v", r)
	}
}

// all32: a pool that knows all backends there may be, each unlike the others.
func all32(t testing.TB) (*pool.Pool, []pool.Update) {
	t.Helper()
	p := made(t, 0, 3)
	l := make([]pool.Update, 32)
	for i := range 32 {
		backend := i * 13 % 32
		l[backend] = pool.Update{Backend: backend, Rec: but(simple(), func(r *life.Rec) { r.Spec.Stamp = int64(10 + i) })}
		merged(t, p, backend, l[backend].Rec, true)
	}
	return p, l
}

func TestAll(t *testing.T) {
	p, l := all32(t)
	for range 2 {
		if got := known(p); !alike(got, l) {
			t.Fatalf("All = %v, want %v", got, l)
		}
	}
	for most := range 32 { // who goes through it may end
		n := 0
		for backend, r := range p.All() {
			if backend != n || !life.Same(r, l[n].Rec) {
				t.Fatalf("the place %d is %d, %v", n, backend, r)
			}
			if n++; n > most {
				break
			}
		}
		if n != most+1 {
			t.Fatalf("%d, ended behind %d", n, most+1)
		}
	}
	q := made(t, 0, 3)
	for _, backend := range []int{31, 0, 17} {
		merged(t, q, backend, l[backend].Rec, true)
	}
	if got := known(q); !alike(got, []pool.Update{l[0], l[17], l[31]}) {
		t.Errorf("All = %v", got)
	}
}

// TestAllAsItIs: what is told is as when it is gone through, not as when All was called.
func TestAllAsItIs(t *testing.T) {
	p := made(t, 0, 3)
	all := p.All()
	merged(t, p, 5, simple(), true)
	n := 0
	for backend, r := range all {
		if backend != 5 || !life.Same(r, simple()) {
			t.Errorf("%d: %v", backend, r)
		}
		n++
	}
	if n != 1 {
		t.Errorf("%d were gone through", n)
	}
	merged(t, p, 5, full(), true)
	for _, r := range all {
		if !life.Same(r, full()) {
			t.Errorf("%v", r)
		}
	}
	var l []int
	for backend := range p.All() { // what comes behind where it stands is come to, what comes ahead of it is not
		if l = append(l, backend); backend == 5 {
			merged(t, p, 4, simple(), true)
			merged(t, p, 6, simple(), true)
		}
	}
	if !slices.Equal(l, []int{5, 6}) {
		t.Errorf("gone through: %v", l)
	}
}

func TestSame(t *testing.T) {
	p := of(t, 0, 3, simple())
	q := of(t, 2, 16, simple()) // neither me nor nodes play a part
	if !p.Same(q) || !q.Same(p) || !p.Same(p) {
		t.Error("what knows the same is not the same")
	}
	if _, e := q.Merge(pool.Update{Backend: 3, Rec: simple()}); e != api.OK || !p.Same(q) {
		t.Error("merged twice it is not the same")
	}
	older := of(t, 0, 3, but(full(), func(r *life.Rec) { r.Gen = 1 }), but(simple(), func(r *life.Rec) { r.Gen = 2 }))
	younger := of(t, 0, 3, but(simple(), func(r *life.Rec) { r.Gen = 2 }))
	if older.Clock() == younger.Clock() || !older.Same(younger) || !younger.Same(older) {
		t.Errorf("the clocks %d, %d play a part", older.Clock(), younger.Clock())
	}
	nothing := made(t, 0, 3)
	elsewhere := made(t, 0, 3)
	merged(t, elsewhere, 4, simple(), true)
	more := of(t, 0, 3, simple())
	merged(t, more, 4, simple(), true)
	unlike := []*pool.Pool{nothing, elsewhere, more, p}
	for _, change := range []func(r *life.Rec){
		func(r *life.Rec) { r.Gen = 2 },
		func(r *life.Rec) { r.Life = api.Draining },
		func(r *life.Rec) { r.Spec.Stamp = 6 },
		func(r *life.Rec) { r.Spec.By = 3 },
		func(r *life.Rec) { r.Spec.Addr.V6 = true },
		func(r *life.Rec) { r.Spec.Weight = 0 },
		func(r *life.Rec) { r.Votes = votes{yes(1)} },
		func(r *life.Rec) { r.Votes = votes{no(1)} },
		func(r *life.Rec) { r.Done = 1 },
	} {
		unlike = append(unlike, of(t, 0, 3, but(simple(), change)))
	}
	for i, a := range unlike {
		for j, b := range unlike {
			if a.Same(b) != (i == j) {
				t.Errorf("Same of %v and %v = %t", known(a), known(b), a.Same(b))
			}
		}
	}
}

// TestCopy: another one goes on as the first one would, and neither changes the other one.
func TestCopy(t *testing.T) {
	p := of(t, 1, 2, full(), but(simple(), func(r *life.Rec) { r.Gen, r.Life = 8, api.Draining }))
	was, clock := known(p), p.Clock()
	q := p.Copy()
	if !p.Same(q) || !alike(known(q), was) || q.Clock() != clock {
		t.Fatalf("%v at %d, of %v at %d", known(q), q.Clock(), was, clock)
	}
	for _, x := range []*pool.Pool{q, q.Copy().Copy()} {
		u, e := x.Do(api.Cmd{Kind: api.CmdAdd, Backend: 9, Addr: four(1), Weight: 1})
		answered(t, x, u, e, 9, life.Rec{Gen: 1, Life: api.Active, Spec: life.Spec{Stamp: clock + 1, By: 1, Addr: four(1), Weight: 1}}, clock+1)
		u, e = x.Vote(9, false)
		answered(t, x, u, e, 9, life.Rec{Gen: 1, Life: api.Active, Spec: life.Spec{Stamp: clock + 1, By: 1, Addr: four(1), Weight: 1}, Votes: votes{{}, no(clock + 2)}}, clock+2)
		if u, e := x.Done(3); u.Rec.Done != 2 || e != api.OK {
			t.Errorf("Done = %v, %d", u, e)
		}
		merged(t, x, 3, but(simple(), func(r *life.Rec) { r.Gen, r.Done = 8, 1 }), true)
		if l := x.Settle(); len(l) != 1 || l[0].Rec.Life != api.Released { // of as many replicas
			t.Errorf("Settle = %v", l)
		}
		if !alike(known(p), was) || p.Clock() != clock {
			t.Fatalf("behind changes of another one: %v at %d", known(p), p.Clock())
		}
	}
	q = p.Copy()
	if _, e := p.Vote(3, false); e != api.OK {
		t.Errorf("Vote: %d", e)
	}
	if !alike(known(q), was) || q.Clock() != clock {
		t.Errorf("behind changes of the first one: %v at %d", known(q), q.Clock())
	}
}

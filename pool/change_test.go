package pool_test

import (
	"math"
	"testing"

	"steelyard/api"
	"steelyard/life"
	"steelyard/pool"
)

// add, drain: commands for the backend 3.
func add(a api.Addr, w float64) api.Cmd {
	return api.Cmd{Kind: api.CmdAdd, Backend: 3, Addr: a, Weight: w}
}

func drain() api.Cmd {
	return api.Cmd{Kind: api.CmdDrain, Backend: 3}
}

// notDone fails unless Do answers that error alone, and changes nothing.
func notDone(t *testing.T, p *pool.Pool, c api.Cmd, want api.Errno) {
	t.Helper()
	refused(t, p, func() (pool.Update, api.Errno) { return p.Do(c) }, want)
}

func TestAdd(t *testing.T) {
	anew := func(r *life.Rec) { r.Gen, r.Life, r.Votes, r.Done = r.Gen+1, api.Active, nil, 0 }
	alone := func(*life.Rec) {}
	for _, c := range []struct {
		name string
		was  life.Rec
		want func(r *life.Rec) // but its Spec
	}{
		{"Active", simple(), alone},
		{"Active, voted", but(full(), func(r *life.Rec) { r.Life = api.Active }), alone},
		{"Active of the greatest Gen", but(simple(), func(r *life.Rec) { r.Gen = api.MaxTicks }), alone},
		{"Released", lived(api.Released), anew},
		{"Released, voted", but(full(), func(r *life.Rec) { r.Life = api.Released }), anew},
		{"Released, one below the greatest Gen", but(full(), func(r *life.Rec) { r.Life, r.Gen = api.Released, api.MaxTicks-1 }), anew},
	} {
		p := of(t, 1, 16, c.was)
		clock := p.Clock()
		want := but(c.was, c.want)
		want.Spec = life.Spec{Stamp: clock + 1, By: 1, Addr: six(0, 9), Weight: 0.1}
		u, e := p.Do(add(six(0, 9), 0.1))
		answered(t, p, u, e, 3, want, clock+1)
		want.Spec = life.Spec{Stamp: clock + 2, By: 1, Addr: four(0, 9)}
		u, e = p.Do(add(four(0, 9), 0)) // it is Active then, so its Gen stays
		answered(t, p, u, e, 3, want, clock+2)
	}
	for backend := range 32 {
		for me := range 16 {
			p := made(t, me, 16)
			u, e := p.Do(api.Cmd{Kind: api.CmdAdd, Backend: backend, Addr: four(1, 2, 3, 4), Weight: 5})
			answered(t, p, u, e, backend, life.Rec{Gen: 1, Life: api.Active, Spec: life.Spec{Stamp: 1, By: me, Addr: four(1, 2, 3, 4), Weight: 5}}, 1)
		}
	}
}

// TestAddOfWeights: what is known is what a weight counts as.
func TestAddOfWeights(t *testing.T) {
	p := made(t, 0, 1)
	clock := int64(0)
	for _, c := range [][2]float64{
		{1, 1}, {0, 0}, {minusZ(), 0}, {nan(), 0}, {-1, 0}, {-smallest, 0}, {-greatest, 0}, {math.Inf(-1), 0},
		{smallest, smallest}, {greatest, greatest}, {inf(), greatest}, {math.Float64frombits(0xfff8<<48 | 7), 0},
	} {
		clock++
		u, e := p.Do(add(four(), c[0]))
		answered(t, p, u, e, 3, life.Rec{Gen: 1, Life: api.Active, Spec: life.Spec{Stamp: clock, Weight: c[1]}}, clock)
	}
}

// TestAddRefused: of one that is draining, and where a number would pass its end.
func TestAddRefused(t *testing.T) {
	c := add(four(1), 1)
	notDone(t, of(t, 0, 3, lived(api.Draining)), c, api.ErrState)
	notDone(t, of(t, 0, 3, full()), c, api.ErrState)
	notDone(t, of(t, 0, 3, but(full(), func(r *life.Rec) { r.Gen = api.MaxTicks })), c, api.ErrState)
	notDone(t, of(t, 0, 3, but(simple(), func(r *life.Rec) { r.Gen, r.Life = api.MaxTicks, api.Released })), c, api.ErrOld)
}

func TestDrain(t *testing.T) {
	for _, was := range []life.Rec{simple(), but(full(), func(r *life.Rec) { r.Life = api.Active }), but(simple(), func(r *life.Rec) { r.Gen = api.MaxTicks })} {
		p := of(t, 1, 3, was)
		clock := p.Clock()
		u, e := p.Do(api.Cmd{Kind: api.CmdDrain, Backend: 3, Addr: four(0, 0, 0, 0, 1), Weight: nan()}) // neither plays a part
		answered(t, p, u, e, 3, but(was, func(r *life.Rec) { r.Life = api.Draining }), clock)
		notDone(t, p, drain(), api.ErrState)
	}
	notDone(t, made(t, 0, 3), drain(), api.ErrNone)
	notDone(t, of(t, 0, 3, simple()), api.Cmd{Kind: api.CmdDrain, Backend: 4}, api.ErrNone)
	notDone(t, of(t, 0, 3, lived(api.Draining)), drain(), api.ErrState)
	notDone(t, of(t, 0, 3, lived(api.Released)), drain(), api.ErrState)
}

// TestDoOfWhatCanNotBe: ErrArg goes ahead of whatever else is in the way.
func TestDoOfWhatCanNotBe(t *testing.T) {
	late := but(simple(), func(r *life.Rec) { r.Spec.Stamp = api.MaxTicks })
	for _, p := range []*pool.Pool{made(t, 0, 3), of(t, 0, 3, simple()), of(t, 0, 3, lived(api.Draining)), of(t, 0, 3, late)} {
		for _, backend := range noBackends() {
			notDone(t, p, api.Cmd{Kind: api.CmdAdd, Backend: backend, Addr: four(1), Weight: 1}, api.ErrArg)
			notDone(t, p, api.Cmd{Kind: api.CmdDrain, Backend: backend}, api.ErrArg)
		}
		for _, kind := range []int{math.MinInt, -1, 0, 3, 4, 1<<32 + 1, math.MaxInt} {
			notDone(t, p, api.Cmd{Kind: kind, Backend: 3, Addr: four(1), Weight: 1}, api.ErrArg)
		}
		for i := 4; i < 16; i++ {
			a := four(1)
			a.B[i] = 1
			notDone(t, p, add(a, 1), api.ErrArg)
		}
	}
}

// TestAtTheLastStamp: no stamp is left, whether a command needs one or not.
func TestAtTheLastStamp(t *testing.T) {
	at := func(n int, stamp int64) life.Rec {
		return but(simple(), func(r *life.Rec) { r.Life, r.Spec.Stamp = n, stamp })
	}
	vote := func(backend int) func(p *pool.Pool) (pool.Update, api.Errno) {
		return func(p *pool.Pool) (pool.Update, api.Errno) { return p.Vote(backend, true) }
	}
	for n := api.Active; n <= api.Released; n++ {
		p := of(t, 0, 3, at(n, api.MaxTicks))
		notDone(t, p, add(four(1), 1), api.ErrOld)
		notDone(t, p, drain(), api.ErrOld)
		notDone(t, p, api.Cmd{Kind: api.CmdAdd, Backend: 4, Addr: four(1)}, api.ErrOld)
		notDone(t, p, api.Cmd{Kind: api.CmdDrain, Backend: 4}, api.ErrOld)
		want := api.ErrOld
		if n == api.Released {
			want = api.ErrNone
		}
		refused(t, p, func() (pool.Update, api.Errno) { return vote(3)(p) }, want)
		refused(t, p, func() (pool.Update, api.Errno) { return vote(4)(p) }, api.ErrNone)
	}
	p := of(t, 0, 1, at(api.Active, api.MaxTicks-1))
	u, e := p.Do(add(four(1), 1))
	answered(t, p, u, e, 3, life.Rec{Gen: 1, Life: api.Active, Spec: life.Spec{Stamp: api.MaxTicks, Addr: four(1), Weight: 1}}, api.MaxTicks)
	p = of(t, 0, 1, at(api.Active, api.MaxTicks-1))
	u, e = vote(3)(p)
	answered(t, p, u, e, 3, but(at(api.Active, api.MaxTicks-1), func(r *life.Rec) { r.Votes = votes{yes(api.MaxTicks)} }), api.MaxTicks)
	notDone(t, p, add(four(1), 1), api.ErrOld)
	p = of(t, 0, 1, at(api.Draining, api.MaxTicks)) // what needs no stamp, and is no command, goes on
	u, e = p.Done(3)
	answered(t, p, u, e, 3, but(at(api.Draining, api.MaxTicks), func(r *life.Rec) { r.Done = 1 }), api.MaxTicks)
	if l := p.Settle(); len(l) != 1 || l[0].Rec.Life != api.Released {
		t.Errorf("Settle = %v", l)
	}
}

func TestVote(t *testing.T) {
	for n := api.Active; n <= api.Draining; n++ {
		for me := range 16 {
			p := of(t, me, 16, lived(n))
			want := lived(n)
			want.Votes = make(votes, me+1)
			for i, ok := range []bool{true, false, false, true} {
				want.Votes[me] = life.Vote{Stamp: int64(6 + i), Ok: ok}
				u, e := p.Vote(3, ok)
				answered(t, p, u, e, 3, want, int64(6+i))
			}
		}
	}
	p := of(t, 2, 16, full()) // of many votes just one is another one
	u, e := p.Vote(3, true)
	answered(t, p, u, e, 3, but(full(), func(r *life.Rec) { r.Votes[2] = life.Vote{Stamp: 1001, Ok: true} }), 1001)
	for _, p := range []*pool.Pool{made(t, 0, 3), of(t, 0, 3, simple()), of(t, 0, 3, lived(api.Released))} {
		for _, ok := range []bool{true, false} {
			for _, backend := range noBackends() {
				refused(t, p, func() (pool.Update, api.Errno) { return p.Vote(backend, ok) }, api.ErrArg)
			}
			refused(t, p, func() (pool.Update, api.Errno) { return p.Vote(4, ok) }, api.ErrNone)
			if p.Get(3).Life != api.Active {
				refused(t, p, func() (pool.Update, api.Errno) { return p.Vote(3, ok) }, api.ErrNone)
			}
		}
	}
}

func TestDone(t *testing.T) {
	for me := range 16 {
		p := of(t, me, 16, lived(api.Draining))
		for range 2 { // twice it is as once
			u, e := p.Done(3)
			answered(t, p, u, e, 3, but(lived(api.Draining), func(r *life.Rec) { r.Done = 1 << me }), 5)
		}
	}
	p := of(t, 1, 3, but(full(), func(r *life.Rec) { r.Done = 9 }))
	u, e := p.Done(3)
	answered(t, p, u, e, 3, but(full(), func(r *life.Rec) { r.Done = 11 }), 1000)
	for _, c := range []struct {
		p    *pool.Pool
		want api.Errno
	}{
		{made(t, 0, 3), api.ErrNone},
		{of(t, 0, 3, simple()), api.ErrState},
		{of(t, 0, 3, lived(api.Released)), api.ErrState},
	} {
		refused(t, c.p, func() (pool.Update, api.Errno) { return c.p.Done(3) }, c.want)
		refused(t, c.p, func() (pool.Update, api.Errno) { return c.p.Done(4) }, api.ErrNone)
		for _, backend := range noBackends() {
			refused(t, c.p, func() (pool.Update, api.Errno) { return c.p.Done(backend) }, api.ErrArg)
		}
	}
}

// TestSettle: of each number of replicas, of each life, of Dones that have all bits, and those that lack one.
func TestSettle(t *testing.T) {
	for nodes := 1; nodes <= 16; nodes++ {
		bits := 1<<nodes - 1
		dones := []int{bits, 65535, 0, 65535 &^ bits}
		for i := range nodes {
			dones = append(dones, bits&^(1<<i), 65535&^(1<<i))
		}
		p := made(t, 0, nodes)
		var want []pool.Update
		for i, done := range dones[:min(len(dones), 32)] {
			backend := i * 5 % 32
			r := but(full(), func(r *life.Rec) { r.Done = done })
			merged(t, p, backend, r, true)
			if done&bits == bits {
				r.Life = api.Released
				want = append(want, pool.Update{Backend: backend, Rec: r})
			}
		}
		was := known(p)
		if l := p.Settle(); !alike(l, want) || len(l) != 2 {
			t.Fatalf("of %d: Settle = %v, want %v", nodes, l, want)
		}
		for i, u := range was {
			if u.Rec.Done&bits == bits {
				was[i].Rec.Life = api.Released
			}
		}
		if got := known(p); !alike(got, was) || p.Clock() != 1000 {
			t.Fatalf("behind Settle: %v at %d", got, p.Clock())
		}
		if l := p.Settle(); len(l) != 0 {
			t.Fatalf("Settle again = %v", l)
		}
	}
	for _, n := range []int{api.Active, api.Released} {
		p := of(t, 0, 2, but(full(), func(r *life.Rec) { r.Life = n }))
		if l := p.Settle(); len(l) != 0 || p.Get(3).Life != n {
			t.Errorf("of the life %d: Settle = %v", n, l)
		}
	}
}

// TestSettleRises: whatever came first.
func TestSettleRises(t *testing.T) {
	p := made(t, 0, 1)
	for i := range 32 {
		merged(t, p, i*7%32, full(), true)
	}
	l := p.Settle()
	if len(l) != 32 {
		t.Fatalf("%d settled", len(l))
	}
	for i, u := range l {
		if u.Backend != i || u.Rec.Life != api.Released {
			t.Errorf("the place %d is %v", i, u)
		}
	}
}

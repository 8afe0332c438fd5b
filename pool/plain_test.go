package pool_test

import (
	"math/rand"
	"testing"

	"steelyard/api"
	"steelyard/life"
	"steelyard/maglev"
	"steelyard/pool"
)

// plain is a pool by the document's words, of rows instead of what is known alone, and of conditions in the order in which they stand there.
type plain struct {
	me, nodes int
	clock     int64
	rows      [32]life.Rec
}

// row: that of a backend, or none.
func (p *plain) row(backend int) *life.Rec {
	if backend < 0 || backend > 31 {
		return nil
	}
	return &p.rows[backend]
}

func (p *plain) stamp() int64 {
	p.clock++
	return p.clock
}

func (p *plain) do(c api.Cmd) api.Errno {
	r := p.row(c.Backend)
	if r == nil || c.Kind != 1 && c.Kind != 2 {
		return api.ErrArg
	}
	if c.Kind == 1 && !c.Addr.V6 && [12]byte(c.Addr.B[4:]) != [12]byte{} {
		return api.ErrArg
	}
	if p.clock == api.MaxTicks {
		return api.ErrOld
	}
	if c.Kind == 2 {
		if r.Gen == 0 {
			return api.ErrNone
		}
		if r.Life != api.Active {
			return api.ErrState
		}
		r.Life = api.Draining
		return api.OK
	}
	if r.Life == api.Draining {
		return api.ErrState
	}
	if r.Gen == 0 || r.Life == api.Released {
		if r.Gen == api.MaxTicks {
			return api.ErrOld
		}
		*r = life.Rec{Gen: r.Gen + 1, Life: api.Active}
	}
	w := 0.0
	if c.Weight > 0 {
		w = min(c.Weight, greatest)
	}
	r.Spec = life.Spec{Stamp: p.stamp(), By: p.me, Addr: c.Addr, Weight: w}
	return api.OK
}

func (p *plain) vote(backend int, ok bool) api.Errno {
	r := p.row(backend)
	if r == nil {
		return api.ErrArg
	}
	if r.Gen == 0 || r.Life == api.Released {
		return api.ErrNone
	}
	if p.clock == api.MaxTicks {
		return api.ErrOld
	}
	all := make(votes, max(len(r.Votes), p.me+1))
	copy(all, r.Votes)
	all[p.me] = life.Vote{Stamp: p.stamp(), Ok: ok}
	r.Votes = all
	return api.OK
}

func (p *plain) done(backend int) api.Errno {
	r := p.row(backend)
	if r == nil {
		return api.ErrArg
	}
	if r.Gen == 0 {
		return api.ErrNone
	}
	if r.Life != api.Draining {
		return api.ErrState
	}
	r.Done |= 1 << p.me
	return api.OK
}

func (p *plain) settle() []pool.Update {
	var l []pool.Update
	for i := range p.rows {
		over := p.rows[i].Life == api.Draining
		for node := range p.nodes {
			over = over && p.rows[i].Done>>node&1 == 1
		}
		if over {
			p.rows[i].Life = api.Released
			l = append(l, pool.Update{Backend: i, Rec: p.rows[i]})
		}
	}
	return l
}

func (p *plain) merge(u pool.Update) (bool, api.Errno) {
	r := p.row(u.Backend)
	if r == nil || !life.Right(u.Rec) || u.Rec.Gen == 0 {
		return false, api.ErrArg
	}
	p.clock = max(p.clock, u.Rec.Spec.Stamp)
	for _, v := range u.Rec.Votes {
		p.clock = max(p.clock, v.Stamp)
	}
	was := *r
	*r, _ = life.Join(was, u.Rec)
	return !life.Same(was, *r), api.OK
}

// all: what is known, rising.
func (p *plain) all() []pool.Update {
	var l []pool.Update
	for i, r := range p.rows {
		if r.Gen > 0 {
			l = append(l, pool.Update{Backend: i, Rec: r})
		}
	}
	return l
}

func (p *plain) takes(backend int) bool {
	r := p.rows[backend]
	unwell := 0
	for i, v := range r.Votes {
		if i < p.nodes && v.Stamp > 0 && !v.Ok {
			unwell++
		}
	}
	return r.Life == api.Active && 2*unwell < p.nodes && r.Spec.Weight > 0
}

// both is a pool and a plain one, of which the same is asked.
type both struct {
	p *pool.Pool
	m *plain
}

func pair(t testing.TB, me, nodes int) both {
	return both{made(t, me, nodes), &plain{me: me, nodes: nodes}}
}

// told fails unless a call answered the plain one's error and, if that is none, what is known.
func (b both) told(t testing.TB, backend int, u pool.Update, e, want api.Errno) []pool.Update {
	t.Helper()
	if e != want {
		t.Fatalf("of %d: %d, want %d", backend, e, want)
	}
	if e != api.OK {
		if u.Backend != 0 || !life.Same(u.Rec, life.Rec{}) {
			t.Fatalf("of %d: %v beside %d", backend, u, e)
		}
		return nil
	}
	if u.Backend != backend || !life.Same(u.Rec, b.m.rows[backend]) {
		t.Fatalf("%v; want %d, %v", u, backend, b.m.rows[backend])
	}
	return []pool.Update{u}
}

// does asks one thing of both by three numbers, and answers what was told.
func (b both) does(t testing.TB, op, x, y int, from pool.Update) []pool.Update {
	t.Helper()
	backend := x%36 - 2 // some that can't be
	switch op % 8 {
	case 0, 1, 2:
		c := api.Cmd{Kind: 1 + op%8%2, Backend: backend, Addr: four(10, byte(y)), Weight: []float64{1, 0, nan(), inf(), -1, 0.5, 2}[y%7]}
		if y%16 == 0 {
			c.Kind = 3
		}
		if y%16 == 1 {
			c.Addr.B[9] = 1
		}
		u, e := b.p.Do(c)
		return b.told(t, backend, u, e, b.m.do(c))
	case 3, 4:
		u, e := b.p.Vote(backend, y%2 == 0)
		return b.told(t, backend, u, e, b.m.vote(backend, y%2 == 0))
	case 5:
		u, e := b.p.Done(backend)
		return b.told(t, backend, u, e, b.m.done(backend))
	case 6:
		l := b.p.Settle()
		if want := b.m.settle(); !alike(l, want) {
			t.Fatalf("Settle = %v, want %v", l, want)
		}
		return l
	}
	b.merges(t, from)
	return nil
}

func (b both) merges(t testing.TB, u pool.Update) {
	t.Helper()
	is, e := b.p.Merge(u)
	if was, want := b.m.merge(u); is != was || e != want {
		t.Fatalf("Merge(%v) = %t, %d; want %t, %d", u, is, e, was, want)
	}
}

// agree fails unless both know the same, and all that hangs on it is so.
func (b both) agree(t testing.TB) {
	t.Helper()
	l := b.m.all()
	if got := known(b.p); !alike(got, l) || b.p.Clock() != b.m.clock {
		t.Fatalf("%v at %d; want %v at %d", got, b.p.Clock(), l, b.m.clock)
	}
	var entries []maglev.Entry
	for i, r := range b.m.rows {
		if !life.Same(b.p.Get(i), r) || b.p.Takes(i) != b.m.takes(i) {
			t.Fatalf("%d: %v, takes %t; want %v, %t", i, b.p.Get(i), b.p.Takes(i), r, b.m.takes(i))
		}
		if b.m.takes(i) {
			entries = append(entries, maglev.Entry{Id: i, Weight: r.Spec.Weight})
		}
	}
	want, f := maglev.Build(entries, 11)
	table, e := b.p.Table(11)
	if n, _ := maglev.Moved(table, want); e != f || len(table) != len(want) || n != 0 {
		t.Fatalf("Table = %v, %d; want %v, %d", table, e, want, f)
	}
}

// TestByChance holds pools that tell each other some of what they are told, late, twice or never, against plain ones, step by step.
func TestByChance(t *testing.T) {
	rnd := rand.New(rand.NewSource(1))
	for range 150 {
		nodes := 1 + rnd.Intn(4)
		var l []both
		for me := range nodes {
			l = append(l, pair(t, me, nodes))
		}
		told := []pool.Update{{Backend: 3, Rec: full()}}
		if rnd.Intn(4) == 0 {
			told[0].Rec.Spec.Stamp = api.MaxTicks - int64(rnd.Intn(5))
		}
		few := 3 + rnd.Intn(34)
		for range 150 {
			b := l[rnd.Intn(nodes)]
			told = append(told, b.does(t, rnd.Intn(8), rnd.Intn(few), rnd.Intn(64), told[rnd.Intn(len(told))])...)
			b.agree(t)
		}
	}
}

// FuzzPool: whatever two pools are asked, they answer as the plain ones.
func FuzzPool(f *testing.F) {
	f.Add([]byte{0, 5, 2, 1, 5, 2, 5, 5, 2, 6, 0, 0, 0, 5, 2})
	f.Add([]byte{128, 5, 2, 135, 0, 0, 7, 0, 0, 1, 5, 2, 7, 1, 0, 135, 1, 0})
	f.Fuzz(func(t *testing.T, script []byte) {
		l := []both{pair(t, 0, 2), pair(t, 1, 2)}
		told := []pool.Update{{}}
		for i := 0; i+2 < min(len(script), 300); i += 3 {
			op, x, y := int(script[i]), int(script[i+1]), int(script[i+2])
			b := l[op/128]
			told = append(told, b.does(t, op, x, y, told[x%len(told)])...)
			b.agree(t)
		}
	})
}

// FuzzMerge: any bytes that are what is known of a backend are merged as the plain one has it, and told again as they were.
func FuzzMerge(f *testing.F) {
	for _, r := range []life.Rec{simple(), full(), lived(api.Released)} {
		b, _ := life.Put(r)
		f.Add(b, b, 3)
	}
	f.Fuzz(func(t *testing.T, b, c []byte, backend int) {
		x, _ := life.Get(b)
		y, _ := life.Get(c)
		two := pair(t, 0, 3)
		two.merges(t, pool.Update{Backend: backend, Rec: x})
		two.merges(t, pool.Update{Backend: 3, Rec: y})
		two.agree(t)
		two.does(t, 6, 0, 0, pool.Update{})
		two.agree(t)
		q := made(t, 1, 3)
		exchange(t, two.p, q)
		if !q.Same(two.p) {
			t.Fatalf("%v of %v", known(q), known(two.p))
		}
	})
}

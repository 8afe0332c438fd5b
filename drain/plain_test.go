package drain_test

import (
	"math/rand"
	"slices"
	"testing"

	"steelyard/api"
	"steelyard/drain"
	"steelyard/flow"
	"steelyard/life"
	"steelyard/pool"
	"steelyard/store"
)

// plain is a pool and a store by the document's words: rows of what is known, and of all packets there ever were.
type plain struct {
	nodes int
	rows  [32]life.Rec
	pins  map[api.Tuple]store.Pin
	ever  []given
}

// given is a packet to a backend, and the time that was given with it.
type given struct {
	backend int
	gen     int64
	until   int64
}

func (p *plain) flows(backend int, gen, now int64) int {
	n := 0
	for _, pin := range p.pins {
		if pin.Backend == backend && pin.Gen == gen && flow.Live(pin.F, now) {
			n++
		}
	}
	return n
}

// until: the greatest time that was given, and whether one ever was.
func (p *plain) until(backend int, gen int64) (int64, bool) {
	most, ever := int64(0), false
	for _, g := range p.ever {
		if g.backend == backend && g.gen == gen {
			most, ever = max(most, g.until), true
		}
	}
	return most, ever
}

func (p *plain) ready(me int, now int64) []int {
	var l []int
	for backend, r := range p.rows {
		until, ever := p.until(backend, r.Gen)
		switch {
		case me < 0 || me > 15:
		case r.Life != 2:
		case r.Done&(1<<me) != 0:
		case p.flows(backend, r.Gen, now) > 0:
		case ever && until >= now:
		default:
			l = append(l, backend)
		}
	}
	return l
}

func (p *plain) step(me int, now int64) []pool.Update {
	var l []pool.Update
	for _, backend := range p.ready(me, now) {
		p.rows[backend].Done |= 1 << me
		l = append(l, pool.Update{Backend: backend, Rec: p.rows[backend]})
	}
	for backend, r := range p.rows {
		over := r.Life == 2
		for i := range p.nodes {
			over = over && r.Done&(1<<i) != 0
		}
		if over {
			p.rows[backend].Life = 3
			l = append(l, pool.Update{Backend: backend, Rec: p.rows[backend]})
		}
	}
	return l
}

func (p *plain) waits(nodes int, now int64) []drain.Wait {
	var l []drain.Wait
	for backend, r := range p.rows {
		if r.Life != 2 {
			continue
		}
		until, _ := p.until(backend, r.Gen)
		w := drain.Wait{Backend: backend, Gen: r.Gen, Flows: p.flows(backend, r.Gen, now), Until: until}
		for i := range 16 {
			if nodes >= 1 && nodes <= 16 && i < nodes && r.Done&(1<<i) == 0 {
				w.Missing = append(w.Missing, i)
			}
		}
		l = append(l, w)
	}
	return l
}

func (p *plain) choose(table []int, h uint64) (drain.Choice, api.Errno) {
	if len(table) == 0 {
		return drain.Choice{}, api.ErrNone
	}
	id := table[h%uint64(len(table))]
	if id < 0 || id > 31 {
		return drain.Choice{}, api.ErrNone
	}
	r, unwell := p.rows[id], 0
	for i, v := range r.Votes {
		if i < p.nodes && v.Stamp > 0 && !v.Ok {
			unwell++
		}
	}
	if r.Life != 1 || 2*unwell >= p.nodes || !(r.Spec.Weight > 0) {
		return drain.Choice{}, api.ErrNone
	}
	return drain.Choice{Backend: id, Gen: r.Gen, Addr: r.Spec.Addr}, api.OK
}

// both is a pool and a store, and plain ones, of which the same is asked.
type both struct {
	me int
	p  *pool.Pool
	s  *store.Store
	m  *plain
}

func pair(t testing.TB, me, nodes int) both {
	return both{me, known(t, me, nodes), empty(t), &plain{nodes: nodes, pins: map[api.Tuple]store.Pin{}}}
}

// hears: something of a backend comes from elsewhere.
func (b both) hears(t testing.TB, backend int, r life.Rec) {
	t.Helper()
	if _, e := b.p.Merge(pool.Update{Backend: backend, Rec: r}); e != api.OK {
		t.Fatalf("Merge(%v): %d", r, e)
	}
	b.m.rows[backend], _ = life.Join(b.m.rows[backend], r)
}

// packet: one of the flow from a port, or of a new one to that backend.
func (b both) packet(port, flags int, now, until int64, backend int, gen int64) {
	pin, e := b.s.Packet(from(port), flags, now, until)
	if e == api.ErrNone {
		pin, e = b.s.Begin(from(port), flags, now, until, backend, gen)
	}
	if e == api.OK {
		b.m.pins[pin.T] = pin
		b.m.ever = append(b.m.ever, given{pin.Backend, pin.Gen, until})
	}
}

// alike fails unless both say the same.
func (b both) alike(t testing.TB, me, nodes int, now int64, table []int, h uint64) {
	t.Helper()
	ready(t, b.p, b.s, me, now, b.m.ready(me, now)...)
	waits(t, b.p, b.s, nodes, now, b.m.waits(nodes, now)...)
	c, e := b.m.choose(table, h)
	chooses(t, b.p, table, h, c, e)
}

// steps fails unless both do the same.
func (b both) steps(t testing.TB, me int, now int64) {
	t.Helper()
	told(t, drain.Step(b.p, b.s, me, now), b.m.step(me, now)...)
	for backend, r := range b.m.rows {
		if !life.Same(b.p.Get(backend), r) {
			t.Fatalf("of %d: %v, want %v", backend, b.p.Get(backend), r)
		}
	}
}

// chance asks numbers of chance.
type chance struct{ *rand.Rand }

func by(seed int64) chance { return chance{rand.New(rand.NewSource(seed))} }

func one[T any](c chance, l []T) T { return l[c.Intn(len(l))] }

// rec: anything that may be known of a backend of few Gens.
func (c chance) rec() life.Rec {
	r := life.Rec{Gen: one(c, []int64{1, 1, 1, 2, ticks}), Life: one(c, []int{1, 1, 2, 2, 2, 3}), Spec: life.Spec{Stamp: 1 + c.Int63n(99), Weight: float64(c.Intn(3))}, Done: one(c, []int{0, 0, 1, 7, c.Intn(65536), 65535})}
	for range c.Intn(5) {
		r.Votes = append(r.Votes, life.Vote{Stamp: 1 + c.Int63n(99), Ok: c.Intn(2) == 0})
	}
	return r
}

// TestByChance holds pools and stores against plain ones, step by step.
func TestByChance(t *testing.T) {
	c := by(1)
	for range 150 {
		nodes := 1 + c.Intn(16)
		b, now := pair(t, c.Intn(nodes), nodes), c.Int63n(100)
		for range 120 {
			backend := one(c, []int{0, 1, 2, 30, 31})
			switch c.Intn(6) {
			case 0:
				b.hears(t, backend, c.rec())
			case 1, 2, 3:
				b.packet(c.Intn(20), one(c, []int{0, 0, api.Fin, api.Ack, api.Rst}), now, now+c.Int63n(30), backend, one(c, []int64{1, 1, 2, ticks}))
			case 4:
				b.steps(t, b.me, now)
			}
			table := slices.Repeat([]int{backend, 31 - backend, c.Intn(40) - 4}, c.Intn(3))
			b.alike(t, one(c, []int{b.me, c.Intn(20) - 2}), c.Intn(20)-1, one(c, []int64{now, now + c.Int63n(90)}), table, c.Uint64())
			now += c.Int63n(one(c, []int64{1, 5, 30}))
		}
	}
}

// FuzzDrain: whatever is known, and whatever flows there are, it is answered as by the plain one.
func FuzzDrain(f *testing.F) {
	f.Add([]byte{0, 5, 9, 2, 0, 0, 1, 5, 9, 16, 1, 0, 2, 0, 0, 0, 0, 0}, 0, 3)
	f.Add([]byte{1, 5, 9, 2, 0, 0, 0, 5, 9, 2, 7, 255, 2, 0, 0, 0, 200, 0, 2, 0, 0, 0, 1, 0}, 1, 2)
	f.Fuzz(func(t *testing.T, script []byte, me, nodes int) {
		p, e := pool.New(me, nodes)
		if e != api.OK {
			return
		}
		b, now := both{me, p, empty(t), &plain{nodes: nodes, pins: map[api.Tuple]store.Pin{}}}, int64(100)
		for i := 0; i+5 < min(len(script), 600); i += 6 {
			backend, gen := int(script[i+1])%32, int64(1+script[i+1]/32)
			switch script[i] % 3 {
			case 0:
				r := life.Rec{Gen: gen, Life: 1 + int(script[i+3])%3, Spec: life.Spec{Stamp: 1 + int64(script[i+2]), Weight: float64(script[i+3] / 128)}, Done: int(script[i+4])<<8 | int(script[i+5])}
				b.hears(t, backend, r)
			case 1:
				b.packet(int(script[i+2]), int(script[i+3]), now, now+int64(script[i+4]), backend, gen)
			case 2:
				now += int64(script[i+4])
				b.steps(t, me, now)
			}
			b.alike(t, int(int8(script[i+2])), int(int8(script[i+3])), now+int64(script[i+5]), []int{backend, int(int8(script[i+2])), 5}, uint64(script[i+3]))
		}
	})
}

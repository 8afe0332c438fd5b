package drain_test

import (
	"slices"
	"testing"

	"steelyard/api"
	"steelyard/drain"
	"steelyard/pool"
	"steelyard/store"
)

// freed is a backend of a Gen that is released.
type freed struct {
	backend int
	gen     int64
}

// world is replicas, each with a pool and a store of its own, and all that was ever told, which arrives whenever and as often as chance will.
type world struct {
	chance
	now    int64
	pools  []*pool.Pool
	stores []*store.Store
	told   []pool.Update
	freed  map[freed]bool
}

func newWorld(t testing.TB, c chance, nodes int) *world {
	t.Helper()
	w := &world{chance: c, now: 1, freed: map[freed]bool{}}
	for me := range nodes {
		w.pools, w.stores = append(w.pools, known(t, me, nodes)), append(w.stores, empty(t))
	}
	return w
}

// tells: a replica told something.
func (w *world) tells(u pool.Update, e api.Errno) {
	if e == api.OK {
		w.told = append(w.told, u)
	}
}

// command: some replica is told something of a backend, or finds it well or not.
func (w *world) command() {
	p, backend := one(w.chance, w.pools), w.Intn(3)
	switch w.Intn(4) {
	case 0:
		w.tells(p.Do(api.Cmd{Kind: api.CmdDrain, Backend: backend}))
	case 1:
		w.tells(p.Vote(backend, w.Intn(3) > 0))
	default:
		w.tells(p.Do(api.Cmd{Kind: api.CmdAdd, Backend: backend, Addr: four(10, 1, byte(backend), byte(w.Intn(9))), Weight: float64(w.Intn(4))}))
	}
}

// hear: some replica hears something, or all that another one knows.
func (w *world) hear(t testing.TB) {
	t.Helper()
	p, l := one(w.chance, w.pools), w.told
	if w.Intn(3) == 0 {
		l = one(w.chance, w.pools).Lacks(p.Marks())
	} else if len(l) > 0 {
		l = []pool.Update{one(w.chance, l)}
	}
	for _, u := range l {
		if _, e := p.Merge(u); e != api.OK {
			t.Fatalf("Merge(%v): %d", u, e)
		}
	}
}

// packet: one comes to a replica, of its flow or of a new one, which gets the backend that the table has for it. Where a new flow is given there is one that takes flows.
func (w *world) packet(t testing.TB) {
	t.Helper()
	i, x, flags, until := w.Intn(len(w.pools)), from(w.Intn(30)), one(w.chance, []int{0, 0, 0, api.Fin, api.Ack, api.Rst}), w.now+w.Int63n(5)
	p, s := w.pools[i], w.stores[i]
	pin, e := s.Packet(x, flags, w.now, until)
	if e == api.ErrNone {
		table, _ := p.Table(13)
		c, none := drain.Choose(p, table, w.Uint64())
		if none != api.OK {
			return
		}
		if r := p.Get(c.Backend); !p.Takes(c.Backend) || r.Gen != c.Gen || r.Spec.Addr != c.Addr {
			t.Fatalf("Choose = %v, of which %v is known", c, r)
		}
		pin, e = s.Begin(x, flags, w.now, until, c.Backend, c.Gen)
	}
	if e == api.OK && w.freed[freed{pin.Backend, pin.Gen}] {
		t.Fatalf("at %d: %d gives %v to one that is released", w.now, i, pin)
	}
}

// step: some replica's.
func (w *world) step(t testing.TB, me int) {
	t.Helper()
	ready := drain.Ready(w.pools[me], w.stores[me], me, w.now)
	l := drain.Step(w.pools[me], w.stores[me], me, w.now)
	for i, u := range l {
		w.tells(u, api.OK)
		if i < len(ready) && u.Backend != ready[i] {
			t.Fatalf("of %v, ready are %v", l, ready)
		}
	}
}

// look fails if one that is released anywhere, ever, is busy anywhere, now or later.
func (w *world) look(t testing.TB) {
	t.Helper()
	for _, p := range w.pools {
		for backend, r := range p.All() {
			if r.Life == api.Released {
				w.freed[freed{backend, r.Gen}] = true
			}
		}
	}
	for f := range w.freed {
		for i, s := range w.stores {
			for _, later := range []int64{0, 1, 4, 60, 1000} {
				if s.Busy(f.backend, f.gen, w.now+later) || s.Count(f.backend, f.gen, w.now+later) > 0 {
					t.Fatalf("at %d, %d later: %v is released, and busy at %d", w.now, later, f, i)
				}
			}
		}
	}
}

// TestNoneIsLost is P21.3, and P1 of stores: whatever is told late, twice or never.
func TestNoneIsLost(t *testing.T) {
	c := by(2)
	all := 0
	for i := range 120 {
		w := newWorld(t, c, 1+i%4)
		for range 400 {
			switch c.Intn(10) {
			case 0:
				w.command()
			case 1, 2, 3:
				w.hear(t)
			case 4, 5, 6:
				w.packet(t)
			case 7, 8:
				w.step(t, c.Intn(len(w.pools)))
			default:
				w.now += c.Int63n(one(c, []int64{2, 5, 5, 50}))
			}
			w.look(t)
		}
		all += len(w.freed)
	}
	if all < 200 {
		t.Errorf("only %d were released: this told nothing", all)
	}
}

// TestItGoes is P21.4, and P2 of what is draining: where all know the same, and nobody is busy with what is draining, it is gone behind two steps; not behind one, if there is somebody else.
func TestItGoes(t *testing.T) {
	c := by(3)
	for i := range 200 {
		w := newWorld(t, c, 1+i%16)
		for range 60 {
			w.command()
			w.packet(t)
			w.hear(t)
		}
		w.meet(t)
		w.now += 100
		draining := len(drain.Waits(w.pools[0], w.stores[0], len(w.pools), w.now))
		for round := range 2 {
			for me := range w.pools {
				w.step(t, me)
			}
			if n := len(drain.Waits(w.pools[0], w.stores[0], len(w.pools), w.now)); round == 0 && len(w.pools) > 1 && n != draining || round == 1 && n != 0 {
				t.Fatalf("behind the step %d: %d of %d are draining", round+1, n, draining)
			}
			w.hearAll(t)
		}
		for me, p := range w.pools {
			if l := drain.Waits(p, w.stores[me], len(w.pools), w.now); len(l) > 0 || !p.Same(w.pools[0]) {
				t.Fatalf("%d still waits: %v", me, l)
			}
		}
		w.look(t)
	}
}

// TestItWaits: as long as one replica is busy with it, nobody releases it; that one says whom it misses.
func TestItWaits(t *testing.T) {
	for busy := range 5 {
		w := newWorld(t, by(4), 5)
		w.tells(w.pools[0].Do(api.Cmd{Kind: api.CmdAdd, Backend: 2, Addr: four(10), Weight: 1}))
		w.hearAll(t)
		begins(t, w.stores[busy], 1, w.now, w.now+4, 2, 1)
		w.tells(w.pools[4].Do(api.Cmd{Kind: api.CmdDrain, Backend: 2}))
		for w.now = 1; w.now <= 61; w.now++ {
			w.hearAll(t)
			for me := range w.pools {
				w.step(t, me)
			}
			for _, p := range w.pools {
				if p.Get(2).Life == api.Released {
					t.Fatalf("at %d: released, and %d is busy", w.now, busy)
				}
			}
		}
		w.hearAll(t)
		for me, p := range w.pools {
			l := drain.Waits(p, w.stores[me], 5, 61)
			if len(l) != 1 || !slices.Equal(l[0].Missing, []int{busy}) || l[0].Flows > 0 != (me == busy) {
				t.Fatalf("Waits of %d = %v, want %d to be missed", me, l, busy)
			}
		}
		for range 2 { // at 62
			for me := range w.pools {
				w.step(t, me)
			}
			w.hearAll(t)
		}
		for me, p := range w.pools {
			if p.Get(2).Life != api.Released {
				t.Errorf("%d knows %v", me, p.Get(2))
			}
		}
	}
}

// hearAll: all replicas hear all that was ever told.
func (w *world) hearAll(t testing.TB) {
	t.Helper()
	for _, p := range w.pools {
		for _, u := range w.told {
			if _, e := p.Merge(u); e != api.OK {
				t.Fatalf("Merge(%v): %d", u, e)
			}
		}
	}
}

// meet: all know the same then.
func (w *world) meet(t testing.TB) {
	t.Helper()
	w.hearAll(t)
	for _, p := range w.pools {
		if !p.Same(w.pools[0]) {
			t.Fatal("they have heard all, and know other things")
		}
	}
}

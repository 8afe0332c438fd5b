package drain_test

import (
	"math"
	"reflect"
	"slices"
	"testing"

	"steelyard/api"
	"steelyard/drain"
	"steelyard/life"
	"steelyard/maglev"
	"steelyard/pool"
	"steelyard/store"
)

const ticks = api.MaxTicks

func four(b ...byte) api.Addr {
	var a api.Addr
	copy(a.B[:], b)
	return a
}

func six(b ...byte) api.Addr {
	a := four(b...)
	a.V6 = true
	return a
}

// from: a tuple from that port.
func from(port int) api.Tuple {
	return api.Tuple{Src: four(10, 0, 0, 1), Dst: four(10, 0, 0, 2), Proto: api.Tcp, SrcPort: port, DstPort: 80}
}

// rec: what is known of a backend of that Gen, with that life, of which those have said so.
func rec(gen int64, is, done int) life.Rec {
	return life.Rec{Gen: gen, Life: is, Spec: life.Spec{Stamp: 5, Addr: four(10, 1, 0, 2), Weight: 1}, Done: done}
}

// known: a pool of the replica me that knows this.
func known(t testing.TB, me, nodes int, l ...pool.Update) *pool.Pool {
	t.Helper()
	p, e := pool.New(me, nodes)
	if e != api.OK {
		t.Fatalf("New(%d, %d): %d", me, nodes, e)
	}
	for _, u := range l {
		if _, e := p.Merge(u); e != api.OK {
			t.Fatalf("Merge(%v): %d", u, e)
		}
	}
	return p
}

// empty: a store for as many flows as there may be.
func empty(t testing.TB) *store.Store {
	t.Helper()
	s, e := store.New(api.MaxFlows)
	if e != api.OK {
		t.Fatal("New:", e)
	}
	return s
}

// begins: a flow begins from that port, which lives for 60 ticks behind now; its backend may be used until then.
func begins(t testing.TB, s *store.Store, port int, now, until int64, backend int, gen int64) {
	t.Helper()
	if _, e := s.Begin(from(port), api.Syn, now, until, backend, gen); e != api.OK {
		t.Fatalf("Begin: %d", e)
	}
}

// ends: the flow from that port is over.
func ends(t testing.TB, s *store.Store, port int, now int64) {
	t.Helper()
	if _, e := s.Packet(from(port), api.Rst, now, 0); e != api.OK {
		t.Fatalf("Packet: %d", e)
	}
}

// ready fails unless these are Ready, and asking for them changed nothing.
func ready(t testing.TB, p *pool.Pool, s *store.Store, me int, now int64, want ...int) {
	t.Helper()
	was := p.Copy()
	if l := drain.Ready(p, s, me, now); !slices.Equal(l, want) {
		t.Fatalf("Ready of %d at %d = %v, want %v", me, now, l, want)
	}
	if !p.Same(was) {
		t.Fatal("Ready changed the pool")
	}
}

// told fails unless updates are just these.
func told(t testing.TB, l []pool.Update, want ...pool.Update) {
	t.Helper()
	if len(l) != len(want) {
		t.Fatalf("%v, want %v", l, want)
	}
	for i, u := range l {
		if u.Backend != want[i].Backend || !life.Same(u.Rec, want[i].Rec) {
			t.Fatalf("the place %d is %v, want %v", i, u, want[i])
		}
	}
}

// chooses fails unless that is the choice, and making it changed nothing.
func chooses(t testing.TB, p *pool.Pool, table []int, h uint64, want drain.Choice, err api.Errno) {
	t.Helper()
	was, slots := p.Copy(), slices.Clone(table)
	if c, e := drain.Choose(p, table, h); c != want || e != err {
		t.Fatalf("Choose(%v, %d) = %v, %d, want %v, %d", table, h, c, e, want, err)
	}
	if !p.Same(was) || !slices.Equal(table, slots) {
		t.Fatal("Choose changed what it was given")
	}
}

// TestChoose: the one that the table has for the number, as the pool knows it.
func TestChoose(t *testing.T) {
	a, b := rec(7, api.Active, 0), rec(ticks, api.Active, 0)
	a.Spec.Addr, b.Spec.Addr, b.Spec.Weight = six(0xfd, 3), four(10, 1, 0, 9), 5
	p := known(t, 0, 3, pool.Update{Backend: 0, Rec: a}, pool.Update{Backend: 31, Rec: b})
	want := map[int]drain.Choice{0: {Backend: 0, Gen: 7, Addr: six(0xfd, 3)}, 31: {Backend: 31, Gen: ticks, Addr: four(10, 1, 0, 9)}}
	table, e := p.Table(13)
	if e != api.OK {
		t.Fatal("Table:", e)
	}
	for h := range uint64(40) {
		id, _ := maglev.Find(table, h)
		chooses(t, p, table, h, want[id], api.OK)
		chooses(t, p, table, math.MaxUint64-h, want[table[(math.MaxUint64-h)%13]], api.OK)
	}
	chooses(t, p, []int{31}, 5, want[31], api.OK)
	chooses(t, p, []int{0, 31, 0}, 4, want[31], api.OK)
}

// TestChooseNone: no slots; or the slot is that of one which takes no flows, or can't be.
func TestChooseNone(t *testing.T) {
	unwell := rec(1, api.Active, 0)
	unwell.Votes = []life.Vote{{Stamp: 1}, {Stamp: 1}}
	light := rec(1, api.Active, 0)
	light.Spec.Weight = 0
	p := known(t, 0, 3,
		pool.Update{Backend: 0, Rec: rec(1, api.Active, 0)},
		pool.Update{Backend: 1, Rec: rec(1, api.Draining, 0)},
		pool.Update{Backend: 2, Rec: rec(1, api.Released, 7)},
		pool.Update{Backend: 3, Rec: unwell},
		pool.Update{Backend: 4, Rec: light},
	)
	for h := range uint64(7) {
		chooses(t, p, nil, h, drain.Choice{}, api.ErrNone)
		chooses(t, p, []int{}, h, drain.Choice{}, api.ErrNone)
		for _, id := range []int{1, 2, 3, 4, 5, 31, 32, -1, math.MinInt, math.MaxInt} {
			chooses(t, p, []int{id, id, id}, h, drain.Choice{}, api.ErrNone)
		}
		chooses(t, nil, []int{0}, h, drain.Choice{}, api.ErrNone)
		chooses(t, nil, nil, h, drain.Choice{}, api.ErrNone)
		chooses(t, known(t, 0, 1), []int{0}, h, drain.Choice{}, api.ErrNone)
	}
	chooses(t, p, []int{1, 0}, 0, drain.Choice{}, api.ErrNone)
	chooses(t, p, []int{1, 0}, 1, drain.Choice{Gen: 1, Addr: four(10, 1, 0, 2)}, api.OK)
}

// TestReady: those that are draining, of which me has not said so, and that are not busy, of their Gen.
func TestReady(t *testing.T) {
	for me := range 16 {
		bit := 1 << me
		p := known(t, 3, 4,
			pool.Update{Backend: 31, Rec: rec(2, api.Draining, 65535&^bit)},
			pool.Update{Backend: 0, Rec: rec(2, api.Draining, 0)},
			pool.Update{Backend: 1, Rec: rec(2, api.Active, 0)},
			pool.Update{Backend: 2, Rec: rec(2, api.Released, 15&^bit)},
			pool.Update{Backend: 3, Rec: rec(2, api.Draining, bit)},
			pool.Update{Backend: 4, Rec: rec(2, api.Draining, 65535)},
			pool.Update{Backend: 9, Rec: rec(2, api.Draining, 0)},
		)
		s := empty(t)
		ready(t, p, s, me, 10, 0, 9, 31)
		begins(t, s, 1, 10, 10, 9, 2)
		ready(t, p, s, me, 10, 0, 31)
		begins(t, s, 2, 10, 30, 0, 1)  // another Gen
		begins(t, s, 3, 10, 30, 8, 2)  // another backend
		begins(t, s, 4, 10, 90, 31, 2) // it may be used for longer than its flow lives
		ready(t, p, s, me, 10, 0)
		ready(t, p, s, me, 70, 0)
		ready(t, p, s, me, 71, 0, 9)
		ready(t, p, s, me, 90, 0, 9)
		ready(t, p, s, me, 91, 0, 9, 31)
		ends(t, s, 1, 50)
		ready(t, p, s, me, 50, 0, 9)
		ready(t, p, nil, me, 50, 0, 9, 31) // no store has no flows
	}
}

// noReplicas: numbers of no replica.
func noReplicas() []int {
	return []int{math.MinInt, -65536, -16, -1, 16, 17, 31, 63, 64, 1 << 32, 1<<32 + 1, math.MaxInt}
}

// TestOfNobody: of one that is no replica none are ready, so nothing is said of them, but those are settled of which all have said so.
func TestOfNobody(t *testing.T) {
	for _, me := range noReplicas() {
		p := known(t, 1, 2, pool.Update{Backend: 5, Rec: rec(1, api.Draining, 0)}, pool.Update{Backend: 6, Rec: rec(1, api.Draining, 3)})
		ready(t, p, empty(t), me, 10)
		told(t, drain.Step(p, empty(t), me, 10), pool.Update{Backend: 6, Rec: rec(1, api.Released, 3)})
		if r := p.Get(5); r.Done != 0 || r.Life != api.Draining {
			t.Errorf("of %d: %v", me, r)
		}
	}
}

// TestStep: it is said of all that are ready, rising; behind that all are settled, rising.
func TestStep(t *testing.T) {
	p := known(t, 1, 3,
		pool.Update{Backend: 20, Rec: rec(1, api.Draining, 5)},
		pool.Update{Backend: 3, Rec: rec(2, api.Draining, 1)},
		pool.Update{Backend: 7, Rec: rec(3, api.Draining, 13)},
		pool.Update{Backend: 2, Rec: rec(4, api.Draining, 7)}, // it was said, but not settled
		pool.Update{Backend: 9, Rec: rec(5, api.Draining, 5)}, // it is busy
		pool.Update{Backend: 11, Rec: rec(6, api.Active, 5)},
		pool.Update{Backend: 12, Rec: rec(7, api.Released, 5)},
	)
	s := empty(t)
	begins(t, s, 1, 10, 20, 9, 5)
	told(t, drain.Step(p, s, 1, 10),
		pool.Update{Backend: 3, Rec: rec(2, api.Draining, 3)},
		pool.Update{Backend: 7, Rec: rec(3, api.Draining, 15)},
		pool.Update{Backend: 20, Rec: rec(1, api.Draining, 7)},
		pool.Update{Backend: 2, Rec: rec(4, api.Released, 7)},
		pool.Update{Backend: 7, Rec: rec(3, api.Released, 15)},
		pool.Update{Backend: 20, Rec: rec(1, api.Released, 7)},
	)
	told(t, drain.Step(p, s, 1, 70))
	told(t, drain.Step(p, s, 1, 71), pool.Update{Backend: 9, Rec: rec(5, api.Draining, 7)}, pool.Update{Backend: 9, Rec: rec(5, api.Released, 7)})
	told(t, drain.Step(p, s, 1, 72))
	if is := p.Get(3); !life.Same(is, rec(2, api.Draining, 3)) {
		t.Errorf("behind all: %v", is)
	}
}

// waits fails unless that is what is waited for, and asking for it changed nothing.
func waits(t testing.TB, p *pool.Pool, s *store.Store, nodes int, now int64, want ...drain.Wait) {
	t.Helper()
	was := p.Copy()
	l := drain.Waits(p, s, nodes, now)
	if len(l) != len(want) {
		t.Fatalf("Waits of %d at %d = %v, want %v", nodes, now, l, want)
	}
	for i, w := range l {
		if !slices.Equal(w.Missing, want[i].Missing) {
			t.Fatalf("%v misses %v, want %v", w, w.Missing, want[i].Missing)
		}
		w.Missing = want[i].Missing
		if !reflect.DeepEqual(w, want[i]) {
			t.Fatalf("Waits of %d at %d = %v, want %v", nodes, now, w, want[i])
		}
	}
	if !p.Same(was) {
		t.Fatal("Waits changed the pool")
	}
}

func TestWaits(t *testing.T) {
	p := known(t, 1, 3,
		pool.Update{Backend: 20, Rec: rec(1, api.Draining, 1<<15|2)},
		pool.Update{Backend: 3, Rec: rec(2, api.Draining, 0)},
		pool.Update{Backend: 4, Rec: rec(2, api.Draining, 65535)},
		pool.Update{Backend: 11, Rec: rec(6, api.Active, 0)},
		pool.Update{Backend: 12, Rec: rec(7, api.Released, 5)},
	)
	s := empty(t)
	begins(t, s, 1, 10, 14, 3, 2)
	begins(t, s, 2, 20, 20, 3, 2)
	begins(t, s, 3, 20, 99, 3, 1) // of another Gen
	begins(t, s, 4, 20, 24, 20, 1)
	begins(t, s, 5, 20, 24, 11, 6)
	begins(t, s, 6, 20, 24, 12, 7)
	all := []int{0, 1, 2, 3, 4, 5, 6, 7, 8, 9, 10, 11, 12, 13, 14, 15}
	for nodes := 1; nodes <= 16; nodes++ {
		some := slices.DeleteFunc(slices.Clone(all[:nodes]), func(i int) bool { return i == 1 || i == 15 })
		waits(t, p, s, nodes, 20, drain.Wait{Backend: 3, Gen: 2, Flows: 2, Until: 20, Missing: all[:nodes]}, drain.Wait{Backend: 4, Gen: 2}, drain.Wait{Backend: 20, Gen: 1, Flows: 1, Until: 24, Missing: some})
	}
	for _, nodes := range append(noReplicas(), 0) {
		if nodes == 16 {
			continue
		}
		waits(t, p, s, nodes, 71, drain.Wait{Backend: 3, Gen: 2, Flows: 1, Until: 20}, drain.Wait{Backend: 4, Gen: 2}, drain.Wait{Backend: 20, Gen: 1, Flows: 1, Until: 24})
	}
	waits(t, p, s, 2, 100, drain.Wait{Backend: 3, Gen: 2, Until: 20, Missing: []int{0, 1}}, drain.Wait{Backend: 4, Gen: 2}, drain.Wait{Backend: 20, Gen: 1, Until: 24, Missing: []int{0}})
	waits(t, p, nil, 1, 20, drain.Wait{Backend: 3, Gen: 2, Missing: []int{0}}, drain.Wait{Backend: 4, Gen: 2}, drain.Wait{Backend: 20, Gen: 1, Missing: []int{0}})
}

// TestOfNil: what is not there knows nothing, and has no flows.
func TestOfNil(t *testing.T) {
	for _, s := range []*store.Store{nil, empty(t), new(store.Store)} {
		for _, p := range []*pool.Pool{nil, new(pool.Pool), known(t, 0, 1)} {
			for _, now := range []int64{math.MinInt64, -1, 0, 5, ticks, math.MaxInt64} {
				ready(t, p, s, 0, now)
				told(t, drain.Step(p, s, 0, now))
				waits(t, p, s, 1, now)
			}
		}
	}
	p := known(t, 0, 1, pool.Update{Backend: 5, Rec: rec(1, api.Draining, 0)})
	told(t, drain.Step(p, nil, 0, 10), pool.Update{Backend: 5, Rec: rec(1, api.Draining, 1)}, pool.Update{Backend: 5, Rec: rec(1, api.Released, 1)})
}

// TestAtAnyTime: whatever time is asked of, be it none.
func TestAtAnyTime(t *testing.T) {
	p, s := known(t, 0, 2, pool.Update{Backend: 5, Rec: rec(1, api.Draining, 0)}), empty(t)
	begins(t, s, 1, ticks, ticks, 5, 1)
	for _, now := range []int64{math.MinInt64, -1, 0, 5, ticks - 1} { // the flow is still to come, but it may be used
		ready(t, p, s, 0, now)
		told(t, drain.Step(p, s, 0, now))
		waits(t, p, s, 1, now, drain.Wait{Backend: 5, Gen: 1, Until: ticks, Missing: []int{0}})
	}
	for _, now := range []int64{ticks, ticks + 60} {
		ready(t, p, s, 0, now)
		waits(t, p, s, 1, now, drain.Wait{Backend: 5, Gen: 1, Flows: 1, Until: ticks, Missing: []int{0}})
	}
	for _, now := range []int64{ticks + 61, math.MaxInt64} {
		ready(t, p, s, 0, now, 5)
		waits(t, p, s, 1, now, drain.Wait{Backend: 5, Gen: 1, Until: ticks, Missing: []int{0}})
	}
}

// TestAnswersAreTheCallers: what is written into an answer, or appended to it, is seen by no other one.
func TestAnswersAreTheCallers(t *testing.T) {
	voted := rec(1, api.Draining, 0)
	voted.Votes = []life.Vote{{Stamp: 3, Ok: true}, {Stamp: 4}}
	p, s := known(t, 0, 1, pool.Update{Backend: 5, Rec: voted}, pool.Update{Backend: 6, Rec: rec(1, api.Draining, 0)}), empty(t)
	w := drain.Waits(p, s, 16, 10)
	_ = append(w[0].Missing, 77)
	for i := range w[0].Missing {
		w[0].Missing[i] = 99
	}
	if w[1].Missing[0] != 0 || len(drain.Waits(p, s, 16, 10)[0].Missing) != 16 || drain.Waits(p, s, 16, 10)[0].Missing[0] != 0 {
		t.Errorf("%v", w)
	}
	l := drain.Ready(p, s, 0, 10)
	l[0] = 99
	ready(t, p, s, 0, 10, 5, 6)
	u := drain.Step(p, s, 0, 10)
	if len(u) != 4 || u[0].Backend != 5 || u[2].Backend != 5 {
		t.Fatalf("Step = %v", u)
	}
	for _, i := range []int{0, 2} {
		u[i].Rec.Votes[0] = life.Vote{Stamp: 9}
		_ = append(u[i].Rec.Votes[:1], life.Vote{Stamp: 9})
		if i == 0 && u[2].Rec.Votes[0].Stamp != 3 || p.Get(5).Votes[0].Stamp != 3 {
			t.Errorf("Step's answers are one behind the other: %v, %v", u, p.Get(5))
		}
	}
}

// TestExample is the document's: one replica; a backend is drained while a flow to it lives.
func TestExample(t *testing.T) {
	p, s := known(t, 0, 1), empty(t)
	p.Do(api.Cmd{Kind: api.CmdAdd, Backend: 2, Addr: four(10, 1, 0, 2), Weight: 1})
	table, _ := p.Table(7)
	c, e := drain.Choose(p, table, 3)
	if c != (drain.Choice{Backend: 2, Gen: 1, Addr: four(10, 1, 0, 2)}) || e != api.OK {
		t.Fatalf("Choose = %v, %d", c, e)
	}
	begins(t, s, 1, 5, 9, c.Backend, c.Gen)
	p.Do(api.Cmd{Kind: api.CmdDrain, Backend: 2})
	waits(t, p, s, 1, 6, drain.Wait{Backend: 2, Gen: 1, Flows: 1, Until: 9, Missing: []int{0}})
	told(t, drain.Step(p, s, 0, 6))
	chooses(t, p, table, 3, drain.Choice{}, api.ErrNone)
	ends(t, s, 1, 6)
	told(t, drain.Step(p, s, 0, 9))
	l := drain.Step(p, s, 0, 10)
	if len(l) != 2 || l[1].Backend != 2 || l[1].Rec.Life != api.Released || p.Get(2).Life != api.Released {
		t.Fatalf("Step = %v", l)
	}
	waits(t, p, s, 1, 10)
}

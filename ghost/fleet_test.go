package ghost_test

import (
	"math"
	"math/rand"
	"slices"
	"testing"

	"steelyard/api"
	"steelyard/fleet"
	"steelyard/ghost"
	"steelyard/node"
)

// script is a source of steps, for so many replicas.
type script struct {
	*rand.Rand
	nodes int
}

// number: any, of letters most often one of the first.
func (c script) number() int {
	return one(c.Rand, 0, 0, 0, 1, -1, c.Intn(50), -c.Intn(50), math.MinInt, math.MaxInt)
}

// bytes: of a packet of few tuples, some of them spoilt.
func (c script) bytes(t testing.TB) []byte {
	t.Helper()
	x := one(c.Rand, tcp(c.Intn(8)), tcp6(c.Intn(8)), udp(c.Intn(8)))
	flags := 0
	if x.Proto == api.Tcp {
		flags = one(c.Rand, api.Syn, api.Syn, 0, api.Ack, api.Ack, api.Fin, api.Fin|api.Ack, api.Rst, c.Intn(256))
	}
	b := packet(t, x, flags, make([]byte, one(c.Rand, 0, 1, 100))...)
	if c.Intn(12) == 0 {
		b[c.Intn(len(b))] ^= 1 << c.Intn(8)
	}
	return b
}

// command: one of few backends.
func (c script) command() api.Event {
	e := api.Event{Kind: api.EvAdmin, Node: c.Intn(c.nodes), Cmd: api.Cmd{Kind: api.CmdDrain, Backend: c.Intn(3)}}
	if c.Intn(2) == 0 {
		e.Cmd.Kind, e.Cmd.Addr = api.CmdAdd, one(c.Rand, four(10, 1, 0, byte(c.Intn(9))), six(0xfd, 1, byte(c.Intn(9))))
		e.Cmd.Weight = one(c.Rand, 1, 1, 2, 0.5, 0, math.NaN(), math.Inf(1))
	}
	return e
}

// step: any one, a tick in how many.
func (c script) step(t testing.TB, in int) api.Event {
	t.Helper()
	if c.Intn(in) == 0 {
		return api.Event{Kind: one(c.Rand, api.EvTick, api.EvTick, api.EvTick, api.EvRound)}
	}
	switch n := c.Intn(100); {
	case n < 30:
		return api.Event{Kind: api.EvPacket, Node: c.Intn(c.nodes), B: c.bytes(t)}
	case n < 75:
		return api.Event{Kind: api.EvDeliver, N: c.number()}
	case n < 80:
		return api.Event{Kind: api.EvDrop, N: c.number()}
	case n < 86:
		return api.Event{Kind: api.EvDouble, N: c.number()}
	case n < 94:
		return c.command()
	case n < 96:
		return api.Event{Kind: api.EvDraw, Node: c.Intn(c.nodes), N: c.number()}
	case n < 98:
		b := c.bytes(t)
		b[0] = 0x45 // no letter begins so
		return api.Event{Kind: api.EvBytes, Node: c.Intn(c.nodes), N: c.Intn(c.nodes), B: b}
	}
	return api.Event{Kind: api.EvVote, Node: c.Intn(c.nodes), N: c.Intn(3), Ok: c.Intn(3) > 0}
}

// runs a script by chance, and tells what is seen of the fleet.
func runs(t testing.TB, seed int64, steps int) (*fleet.Fleet, []fleet.Seen) {
	t.Helper()
	c := script{rand.New(rand.NewSource(seed)), 1 + int(seed)%5}
	f, e := fleet.New(node.Conf{Nodes: c.nodes, Slots: one(c.Rand, 2, 7, 13), Flows: one(c.Rand, 1, 3, 20, 256), Mtu: one(c.Rand, 100, 130, 1500)})
	if e != api.OK {
		t.Fatal("New:", e)
	}
	in := []int{2, 4, 7, 12}[seed/5%4]
	var l []fleet.Seen
	for range steps {
		l = append(l, f.Do(c.step(t, in))...)
	}
	return f, l
}

// TestFleet is P24.3 (P3, P5): whatever the script, as long as its EvBytes are no letters, all that is seen of the fleet may be; and P24.5 of it: no more frames than grants. The model's flows are those that the replicas have.
func TestFleet(t *testing.T) {
	var kinds [5]int
	for seed := range int64(150) {
		f, l := runs(t, seed, 900)
		if n, ok := ghost.Check(l); !ok || n != len(l) {
			t.Fatalf("of the script %d may not be: %+v", seed, l[n])
		}
		m, p := ghost.New(), &plain{}
		for _, s := range l {
			if !p.step(s) {
				t.Fatalf("of the script %d may not be: %+v", seed, s)
			}
			goes(t, m, s)
			kinds[s.Kind]++
		}
		var pins []ghost.Flow
		for i := range f.Nodes() {
			for _, x := range f.Node(i).Pins() {
				pins = append(pins, ghost.Flow{Owner: i, T: x.T, Backend: x.Backend, Gen: x.Gen})
			}
		}
		if flows := m.Flows(f.Now()); !slices.Equal(flows, pins) || !slices.Equal(p.living(f.Now()), pins) {
			t.Fatalf("of the script %d there are %v, the replicas have %v", seed, flows, pins)
		}
	}
	if kinds[1] < 3000 || kinds[2] < 3000 || kinds[3] < 3000 || kinds[4] < 200 || kinds[2] > kinds[1] {
		t.Errorf("%v: this told too little", kinds)
	}
}

// TestNotAnyFleet: of a fleet that does something else it is seen: a frame twice, or of no grant, or too late; a grant that is lost, of another backend, or new again; a backend that is released too early, or used behind it.
func TestNotAnyFleet(t *testing.T) {
	_, l := runs(t, 6, 900) // of two replicas
	refused := func(what string, change func(l []fleet.Seen, k int) []fleet.Seen, least int) {
		t.Helper()
		n := 0
		for k := range l {
			other := change(slices.Clone(l), k)
			if other == nil {
				continue
			}
			_, ok := ghost.Check(other)
			p := &plain{}
			is := true
			for _, s := range other {
				is = is && p.step(s)
			}
			if ok != is {
				t.Fatalf("%s at %d: %t, want %t", what, k, ok, is)
			}
			if !ok {
				n++
			}
		}
		if n < least {
			t.Errorf("%s: just %d were refused", what, n)
		}
	}
	of := func(kind int, change func(l []fleet.Seen, k int) []fleet.Seen) func(l []fleet.Seen, k int) []fleet.Seen {
		return func(l []fleet.Seen, k int) []fleet.Seen {
			if l[k].Kind != kind {
				return nil
			}
			return change(l, k)
		}
	}
	refused("a frame twice", of(fleet.Framed, func(l []fleet.Seen, k int) []fleet.Seen { return slices.Insert(l, k, l[k]) }), 10)
	refused("a frame too late", of(fleet.Framed, func(l []fleet.Seen, k int) []fleet.Seen {
		l[k].Now += 5
		return l[:k+1]
	}), 10)
	refused("a frame elsewhere", of(fleet.Framed, func(l []fleet.Seen, k int) []fleet.Seen {
		l[k].Frame.Backend = (l[k].Frame.Backend + 1) % 3
		return l
	}), 10)
	refused("a grant lost", of(fleet.Granted, func(l []fleet.Seen, k int) []fleet.Seen { return slices.Delete(l, k, k+1) }), 10)
	refused("a grant of another backend", of(fleet.Granted, func(l []fleet.Seen, k int) []fleet.Seen {
		l[k].Grant.Backend = (l[k].Grant.Backend + 1) % 3
		return l
	}), 10)
	refused("a new grant", of(fleet.Granted, func(l []fleet.Seen, k int) []fleet.Seen {
		l[k].Grant.New = !l[k].Grant.New
		return l
	}), 10)
	refused("released too early", of(fleet.Granted, func(l []fleet.Seen, k int) []fleet.Seen {
		g := l[k].Grant
		return slices.Insert(l[:k+1], k+1, freed(0, l[k].Now, g.Backend, g.Gen))
	}), 10)
	refused("used behind it", of(fleet.Freed, func(l []fleet.Seen, k int) []fleet.Seen {
		g := l[k]
		return append(l[:k+1], fleet.Seen{Kind: fleet.Granted, Now: g.Now, Grant: node.Grant{T: tcp(99), Backend: g.Gone.Backend, Gen: g.Gone.Gen, Until: g.Now, New: true}})
	}), 1)
}

// TestTheyMeet is P2 of Rounds: behind so many rounds all replicas know the same, have the same table, are there for all, and nothing is draining.
func TestTheyMeet(t *testing.T) {
	for seed := range int64(10) {
		if seed%5 == 4 {
			continue // it is claimed of at most four replicas
		}
		f, _ := runs(t, seed, 60)
		for range ghost.Rounds(f.Nodes()) {
			f.Do(api.Event{Kind: api.EvRound})
		}
		for i := range f.Nodes() {
			x := f.Node(i)
			if !x.Pool().Same(f.Node(0).Pool()) || !slices.Equal(x.Table(), f.Node(0).Table()) || len(x.Live()) != f.Nodes() || len(x.Waits()) > 0 {
				t.Errorf("of the script %d: %d of %d: %v, %v, %v", seed, i, f.Nodes(), x.Table(), x.Live(), x.Waits())
			}
		}
	}
}

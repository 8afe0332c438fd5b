package node_test

import (
	"bytes"
	"fmt"
	"math/rand"
	"slices"
	"testing"

	"steelyard/api"
	"steelyard/flow"
	"steelyard/geneve"
	"steelyard/life"
	"steelyard/node"
	"steelyard/pool"
	"steelyard/tuple"
)

// outcome fails unless a step of so many packets had one end of each one, or let it wait; what waits no more had an end, too.
func outcome(t testing.TB, r node.Result, packets, waited, waits int) {
	t.Helper()
	ends := len(r.Frames)
	for _, kind := range r.Drops {
		if kind != node.Bad {
			ends++
		}
	}
	if ends+waits != packets+waited {
		t.Fatalf("%d packets came, %d waited; %d wait: %+v", packets, waited, waits, r)
	}
}

// of is a backend of a Gen.
type of struct {
	backend int
	gen     int64
}

// fleet is replicas, the letters between them, and what was seen of them.
type fleet struct {
	*rand.Rand
	nodes  []*node.Node
	slots  int
	flight []letterOut
	made   []pool.Update
	freed  map[of]bool
	grants []granted // those that may be used still
	sent   int       // how many frames there were
	dropped
}

// granted is a grant that was seen, by which replica, and when.
type granted struct {
	by int
	node.Grant
}

// dropped is of each replica how many drops were seen, by their kinds.
type dropped []map[int]uint64

func newFleet(t testing.TB, rnd *rand.Rand, c node.Conf) *fleet {
	t.Helper()
	f := &fleet{Rand: rnd, slots: c.Slots, freed: map[of]bool{}}
	for me := range c.Nodes {
		f.nodes, f.dropped = append(f.nodes, made(t, me, c)), append(f.dropped, map[int]uint64{})
	}
	return f
}

// saw takes down what came of a step of a replica, and fails if it may not be.
func (f *fleet) saw(t testing.TB, i, packets, waited int, r node.Result) {
	t.Helper()
	x := f.nodes[i]
	outcome(t, r, packets, waited, x.Waiting())
	for _, g := range r.Grants {
		f.granted(t, i, g)
	}
	for _, y := range r.Frames {
		f.framed(t, i, y)
	}
	for _, kind := range r.Drops {
		f.dropped[i][kind]++
	}
	for kind, n := range f.dropped[i] {
		if x.Counts().Get(kind) != n {
			t.Fatalf("of the kind %d %d were counted, %d seen", kind, x.Counts().Get(kind), n)
		}
	}
	for _, g := range r.Gone {
		f.gone(t, g)
	}
	for _, o := range r.Out {
		if o.To == i || o.To < 0 || o.To >= len(f.nodes) {
			t.Fatalf("%d sends to %d", i, o.To)
		}
		f.flight = append(f.flight, letterOut{i, o.To, o.Data})
	}
	f.made = append(f.made, r.Made...)
	if table, _ := x.Pool().Table(f.slots); !slices.Equal(x.Table(), table) { // P22.5
		t.Fatalf("Table = %v, of what is known %v", x.Table(), table)
	}
}

func (f *fleet) granted(t testing.TB, i int, g node.Grant) {
	t.Helper()
	x := f.nodes[i]
	if f.freed[of{g.Backend, g.Gen}] || x.Pool().Get(g.Backend).Gen != g.Gen {
		t.Fatalf("%d grants %v, of which it knows %v", i, g, x.Pool().Get(g.Backend))
	}
	f.grants = append(f.grants, granted{i, g})
}

// framed: it goes to one that a grant was for, as it was, and is not known as released, nor is a greater Gen known.
func (f *fleet) framed(t testing.TB, i int, y node.Frame) {
	t.Helper()
	x := f.nodes[i]
	path, in, e := geneve.Unwrap(y.Data)
	if e != api.OK || path.Src != node.Home(i, path.Dst.V6) || len(in.Opts) != 1 || !bytes.Equal(in.Opts[0].Data, []byte{0, 0, 0, 0, 0, 0, 0, byte(y.Gen)}) {
		t.Fatalf("%d sends %v, %v: %d", i, path, in, e)
	}
	seen, e := tuple.Of(in.Inner)
	if e != api.OK || seen.T != y.T {
		t.Fatalf("within is a packet of %v, %d; the frame says %v", seen.T, e, y.T)
	}
	is := x.Pool().Get(y.Backend)
	if f.freed[of{y.Backend, y.Gen}] || is.Gen > y.Gen || is.Gen == y.Gen && is.Life == api.Released {
		t.Fatalf("%d sends a frame to %d of Gen %d, of which it knows %v", i, y.Backend, y.Gen, is)
	}
	k := slices.IndexFunc(f.grants, func(g granted) bool {
		return g.From == i && g.T == y.T && g.Backend == y.Backend && g.Gen == y.Gen && g.Until >= x.Now()
	})
	if k < 0 {
		t.Fatalf("%d sends a frame of %v to %d, for which there was no grant", i, y.T, y.Backend)
	}
	f.grants = slices.Delete(f.grants, k, k+1)
	f.sent++
}

// gone: it is told once by each replica; no flow to it lives.
func (f *fleet) gone(t testing.TB, g node.Gone) {
	t.Helper()
	f.freed[of{g.Backend, g.Gen}] = true
	for i, x := range f.nodes {
		for _, p := range x.Pins() {
			if p.Backend == g.Backend && p.Gen == g.Gen {
				t.Fatalf("%v is released, and %d has %v", g, i, p)
			}
		}
	}
}

func (f *fleet) packet(t testing.TB, i int, b []byte) node.Result {
	t.Helper()
	waited := f.nodes[i].Waiting()
	was := slices.Clone(b)
	r := f.nodes[i].Packet(b)
	f.saw(t, i, 1, waited, r)
	if len(r.Frames) == 1 {
		if _, in, _ := geneve.Unwrap(r.Frames[0].Data); !bytes.Equal(in.Inner, was) {
			t.Fatalf("%x came, %x goes on", was, in.Inner)
		}
	}
	return r
}

// arrive: the letter at a place does.
func (f *fleet) arrive(t testing.TB, k int) node.Result {
	t.Helper()
	o := f.flight[k]
	f.flight = slices.Delete(f.flight, k, k+1)
	waited := f.nodes[o.to].Waiting()
	r := f.nodes[o.to].Letter(o.from, o.b)
	f.saw(t, o.to, 0, waited, r)
	return r
}

// settle: all letters arrive, the first one first; all frames that come of it.
func (f *fleet) settle(t testing.TB) []node.Frame {
	t.Helper()
	var l []node.Frame
	for n := 0; len(f.flight) > 0; n++ {
		if n > 5000 {
			t.Fatal("letters never end")
		}
		l = append(l, f.arrive(t, 0).Frames...)
	}
	return l
}

func (f *fleet) tick(t testing.TB) {
	t.Helper()
	for i, x := range f.nodes {
		waited := x.Waiting()
		r := x.Tick()
		f.saw(t, i, 0, waited, r)
		f.issued(t, i)
	}
	now := f.nodes[0].Now()
	f.grants = slices.DeleteFunc(f.grants, func(g granted) bool { return g.Until < now })
}

// issued fails unless what a replica knows is some of what was ever made, joined: P5 of replicas.
func (f *fleet) issued(t testing.TB, i int) {
	t.Helper()
	for backend, r := range f.nodes[i].Pool().All() {
		var some life.Rec
		for _, u := range f.made {
			if u.Backend == backend && life.Within(u.Rec, r) {
				some, _ = life.Join(some, u.Rec)
			}
		}
		if !life.Same(some, r) {
			t.Fatalf("%d knows of %d %v, of which was made %v", i, backend, r, some)
		}
	}
}

func (f *fleet) round(t testing.TB) {
	t.Helper()
	f.tick(t)
	f.settle(t)
}

// command: one is told something of a backend, or finds it well or not.
func (f *fleet) command(t testing.TB) {
	t.Helper()
	i, backend := f.Intn(len(f.nodes)), f.Intn(4)
	x := f.nodes[i]
	waited := x.Waiting()
	var r node.Result
	switch f.Intn(5) {
	case 0, 1:
		r, _ = x.Admin(drained(backend))
	case 2:
		r, _ = x.Vote(backend, f.Intn(3) > 0)
	default:
		c := add(backend, four(10, 1, byte(backend), byte(f.Intn(3))))
		c.Weight = float64(f.Intn(3))
		r, _ = x.Admin(c)
	}
	f.saw(t, i, 0, waited, r)
}

// some: bytes of a packet of few tuples.
func (f *fleet) some(t testing.TB) []byte {
	t.Helper()
	x := []api.Tuple{tcp(f.Intn(6)), tcp6(f.Intn(6)), udp(f.Intn(6))}[f.Intn(3)]
	flags := 0
	if x.Proto == api.Tcp {
		flags = one(f.Rand, []int{api.Syn, 0, api.Ack, api.Fin, api.Rst})
	}
	return packet(t, x, flags, byte(f.Intn(256)))
}

// mishap: a letter arrives, is lost, or is there twice.
func (f *fleet) mishap(t testing.TB) {
	t.Helper()
	if len(f.flight) == 0 {
		return
	}
	k := f.Intn(len(f.flight))
	switch f.Intn(8) {
	case 0:
		f.flight = slices.Delete(f.flight, k, k+1)
	case 1:
		f.flight = append(f.flight, f.flight[k])
	default:
		f.arrive(t, k)
	}
}

// TestWhateverIsLost is P22.2, P22.3, P22.5, and P1 and P3 of replicas: letters lost, doubled, late.
func TestWhateverIsLost(t *testing.T) {
	freed, sent := 0, 0
	for seed := range int64(60) {
		c := conf(1 + int(seed)%4)
		c.Flows = 1 + int(seed)%9
		f := newFleet(t, rand.New(rand.NewSource(seed)), c)
		for range 1200 {
			switch n := f.Intn(100); {
			case n < 20:
				f.packet(t, f.Intn(len(f.nodes)), f.some(t))
			case n < 76:
				f.mishap(t)
			case n < 86:
				f.tick(t)
			case n < 90:
				f.command(t)
			case n < 92:
				f.nodes[f.Intn(len(f.nodes))].Draw(f.Int())
			default:
				for range 4 {
					f.mishap(t)
				}
			}
		}
		freed, sent = freed+len(f.freed), sent+f.sent
	}
	if freed < 50 || sent < 2000 {
		t.Errorf("%d were released, %d frames sent: this told too little", freed, sent)
	}
}

// TestTheyMeet is P2 of replicas: behind some rounds all know the same, which is all that was ever made, joined; all are there for all, and nothing is draining.
func TestTheyMeet(t *testing.T) {
	for seed := range int64(16) {
		nodes := 1 + int(seed)%4
		f := newFleet(t, rand.New(rand.NewSource(seed)), conf(nodes))
		for range 60 {
			switch f.Intn(5) {
			case 0:
				f.packet(t, f.Intn(nodes), f.some(t))
			case 1, 2:
				f.command(t)
			case 3:
				f.mishap(t)
			case 4:
				f.tick(t)
			}
			if seed%2 == 0 && f.Intn(3) > 0 {
				f.flight = nil
			}
		}
		for range 60*nodes + 400 {
			f.round(t)
		}
		want, _ := pool.New(0, nodes)
		for _, u := range f.made {
			want.Merge(u)
		}
		for i, x := range f.nodes {
			if !x.Pool().Same(want) || !slices.Equal(x.Table(), f.nodes[0].Table()) || len(x.Live()) != nodes || len(x.Waits()) > 0 {
				t.Fatalf("%d of %d: %s; want %v", i, nodes, state(x), want)
			}
		}
	}
}

// last is a flow, and where its packets go.
type last struct {
	f flow.Flow
	of
}

// TestOneBackendOfEachFlow is P4 (and P22.6 of one alone): where all letters arrive ahead of the next step, each packet of a flow that lives gets a frame to the backend of its first one, at whichever replica it comes.
func TestOneBackendOfEachFlow(t *testing.T) {
	kept := 0
	for seed := range int64(40) {
		c := conf(1 + int(seed)%5)
		c.Flows = 256
		f := newFleet(t, rand.New(rand.NewSource(seed)), c)
		flows := map[api.Tuple]last{}
		for range 500 {
			switch n := f.Intn(20); {
			case n < 14:
				b := f.some(t)
				seen, _ := tuple.Of(b)
				r := f.packet(t, f.Intn(len(f.nodes)), b)
				kept += f.goes(t, flows, seen, append(r.Frames, f.settle(t)...))
			case n < 17:
				f.command(t)
			case n < 19:
				f.tick(t)
			default:
				for range 30 {
					f.round(t)
				}
			}
			f.settle(t)
		}
	}
	if kept < 1000 {
		t.Errorf("%d packets were of flows that lived: this told too little", kept)
	}
}

// goes fails unless the frames of a packet are as its flow says; it answers how many were of one that lived.
func (f *fleet) goes(t testing.TB, flows map[api.Tuple]last, seen tuple.Seen, l []node.Frame) int {
	t.Helper()
	now, was := f.nodes[0].Now(), flows[seen.T]
	if flow.Live(was.f, now) {
		if len(l) != 1 || (of{l[0].Backend, l[0].Gen}) != was.of {
			t.Fatalf("at %d: of a flow to %v there goes %v", now, was, l)
		}
		was.f, _ = flow.Step(was.f, seen.Flags, now)
		flows[seen.T] = was
		return 1
	}
	fresh, e := flow.Begin(seen.T.Proto, seen.Flags, now)
	if len(l) > 1 || len(l) == 1 && e != api.OK {
		t.Fatalf("at %d: of no flow there goes %v, %d", now, l, e)
	}
	if len(l) == 1 {
		flows[seen.T] = last{fresh, of{l[0].Backend, l[0].Gen}}
	}
	return 0
}

// TestTenExamples is what the document's examples of the whole say of replicas.
func TestTenExamples(t *testing.T) {
	f := newFleet(t, rand.New(rand.NewSource(1)), conf(3))
	two := four(10, 1, 0, 2)
	f.saw(t, 0, 0, 0, admin(t, f.nodes[0], add(2, two)))
	f.round(t)
	for i, x := range f.nodes { // 1
		if x.Pool().Get(2).Spec.Addr != two || !slices.Equal(x.Table(), slices.Repeat([]int{2}, 13)) {
			t.Fatalf("%d: %s", i, state(x))
		}
	}
	y := owned(t, 0, 1, 0, 1, 2)[0]
	goes := func(i int, flags int) {
		t.Helper()
		b := packet(t, y, flags)
		l := append(f.packet(t, i, b).Frames, f.settle(t)...)
		want := []node.Frame{frame(t, i, 2, 1, two, y, b)}
		if fmt.Sprint(l) != fmt.Sprint(want) {
			t.Fatalf("%v, want %v", l, want)
		}
	}
	goes(1, api.Syn) // 2
	goes(2, api.Ack) // 3
	c := add(5, four(10, 1, 0, 5))
	c.Weight = 1 / zero
	f.saw(t, 1, 0, 0, admin(t, f.nodes[1], c))
	f.settle(t)
	if x := f.nodes[2]; !slices.Equal(x.Table(), slices.Repeat([]int{5}, 13)) { // 4
		t.Fatal(state(x))
	}
	goes(0, api.Ack)
	c.Weight = zero / zero
	f.saw(t, 1, 0, 0, admin(t, f.nodes[1], c))
	f.settle(t)
	if x := f.nodes[2]; !slices.Equal(x.Table(), slices.Repeat([]int{2}, 13)) {
		t.Fatal(state(x))
	}
	f.saw(t, 2, 0, 0, admin(t, f.nodes[2], drained(2))) // 5
	f.settle(t)
	f.round(t)
	goes(0, api.Fin)
	goes(1, api.Ack)
	for now := 1; now <= 6; now++ {
		f.round(t)
		if freed := f.freed[of{2, 1}]; freed != (now >= 5) {
			t.Errorf("%d ticks behind its end: released: %t", now, freed)
		}
	}
	if r := f.packet(t, 0, packet(t, y, api.Ack)); len(r.Drops) != 1 || r.Drops[0] != node.NoBackend {
		t.Errorf("%v", r)
	}
}

// zero is no constant, so that it may be divided by.
var zero = 0.0

// TestGivenUp is the ninth: a replica of which nothing arrives is given up, and the others own its flows; when its letters arrive again, all see it.
func TestGivenUp(t *testing.T) {
	f := newFleet(t, rand.New(rand.NewSource(1)), conf(3))
	y := owned(t, 2, 1, 0, 1, 2)[0]
	for range 100 {
		f.tick(t)
		for len(f.flight) > 0 {
			if f.flight[0].from == 2 {
				f.flight = f.flight[1:]
				continue
			}
			f.arrive(t, 0)
		}
	}
	for i, x := range f.nodes[:2] {
		if !slices.Equal(x.Live(), []int{0, 1}) {
			t.Fatalf("Live of %d = %v", i, x.Live())
		}
		r := f.packet(t, i, packet(t, y, 0))
		if len(r.Out) == 1 && r.Out[0].To == 2 {
			t.Errorf("%d asks the one that is given up", i)
		}
	}
	for range 200 {
		f.round(t)
	}
	for i, x := range f.nodes {
		if !slices.Equal(x.Live(), []int{0, 1, 2}) {
			t.Errorf("Live of %d = %v", i, x.Live())
		}
	}
	if r := f.packet(t, 0, packet(t, y, 0)); len(r.Out) != 1 || r.Out[0].To != 2 {
		t.Errorf("%v", r)
	}
}

// TestTwoAtOnce is the tenth: two replicas are told of the same backend at once; both know the later one by its stamp, of the same stamp that of the greater replica.
func TestTwoAtOnce(t *testing.T) {
	f := newFleet(t, rand.New(rand.NewSource(1)), conf(2))
	f.saw(t, 1, 0, 0, admin(t, f.nodes[1], add(2, four(1))))
	f.saw(t, 0, 0, 0, admin(t, f.nodes[0], add(2, four(9))))
	f.settle(t)
	for i, x := range f.nodes {
		if s := x.Pool().Get(2).Spec; s.Addr != four(1) || s.By != 1 {
			t.Errorf("%d knows %v", i, s)
		}
	}
	f.saw(t, 0, 0, 0, admin(t, f.nodes[0], add(2, four(7))))
	f.settle(t)
	if s := f.nodes[1].Pool().Get(2).Spec; s.Addr != four(7) || s.Stamp != 2 {
		t.Errorf("%v", s)
	}
}

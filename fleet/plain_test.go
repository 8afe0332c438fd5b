package fleet_test

import (
	"fmt"
	"math"
	"math/rand"
	"slices"
	"testing"

	"steelyard/api"
	"steelyard/fleet"
	"steelyard/node"
	"steelyard/pool"
)

// plain is a fleet by the document's words.
type plain struct {
	nodes  []*node.Node
	flight []note
	issued []pool.Update
	now    int64
	seen   []fleet.Seen
}

// note is a letter on its way.
type note struct {
	from, to int
	b        []byte
}

func newPlain(c node.Conf) *plain {
	p := &plain{}
	for i := range c.Nodes {
		x, _ := node.New(i, c)
		p.nodes = append(p.nodes, x)
	}
	return p
}

// plainSeen: what is seen of what came of a step.
func plainSeen(i int, now int64, r node.Result) []fleet.Seen {
	var l []fleet.Seen
	for _, x := range r.Grants {
		l = append(l, fleet.Seen{Kind: 1, Node: i, Now: now, Grant: x})
	}
	for _, x := range r.Frames {
		l = append(l, fleet.Seen{Kind: 2, Node: i, Now: now, Frame: x})
	}
	for _, x := range r.Drops {
		l = append(l, fleet.Seen{Kind: 3, Node: i, Now: now, Drop: x})
	}
	for _, x := range r.Gone {
		l = append(l, fleet.Seen{Kind: 4, Node: i, Now: now, Gone: x})
	}
	return l
}

func (p *plain) came(i int, r node.Result) {
	for _, o := range r.Out {
		if len(p.flight) < 10000 {
			p.flight = append(p.flight, note{i, o.To, o.Data})
		}
	}
	p.issued = append(p.issued, r.Made...)
	p.seen = append(p.seen, plainSeen(i, p.now, r)...)
}

func (p *plain) arrive(k int) {
	o := p.flight[k]
	p.flight = slices.Delete(slices.Clone(p.flight), k, k+1)
	p.came(o.to, p.nodes[o.to].Letter(o.from, o.b))
}

func (p *plain) tick() {
	p.now++
	for i, x := range p.nodes {
		p.came(i, x.Tick())
	}
}

func (p *plain) do(e api.Event) []fleet.Seen {
	p.seen = nil
	switch e.Kind {
	case 2, 3, 4:
		p.letter(e)
	case 5:
		p.tick()
	case 10:
		p.tick()
		for n := 0; n < 5000 && len(p.flight) > 0; n++ {
			p.arrive(0)
		}
	default:
		if e.Node >= 0 && e.Node < len(p.nodes) {
			p.alone(e, p.nodes[e.Node])
		}
	}
	return p.seen
}

func (p *plain) letter(e api.Event) {
	if len(p.flight) == 0 {
		return
	}
	k := e.N % len(p.flight)
	if k < 0 {
		k += len(p.flight)
	}
	switch {
	case e.Kind == 2:
		p.arrive(k)
	case e.Kind == 3:
		p.flight = slices.Delete(slices.Clone(p.flight), k, k+1)
	case len(p.flight) < 10000:
		p.flight = append(p.flight, p.flight[k])
	}
}

func (p *plain) alone(e api.Event, x *node.Node) {
	switch e.Kind {
	case 1:
		p.came(e.Node, x.Packet(e.B))
	case 6:
		x.Draw(e.N)
	case 7:
		if r, err := x.Admin(e.Cmd); err == 0 {
			p.came(e.Node, r)
		}
	case 8:
		if r, err := x.Vote(e.N, e.Ok); err == 0 {
			p.came(e.Node, r)
		}
	case 9:
		p.came(e.Node, x.Letter(e.N, e.B))
	}
}

// alike fails unless a step is the same of a fleet and a plain one.
func alike(t testing.TB, f *fleet.Fleet, p *plain, e api.Event, steps int64) {
	t.Helper()
	sees(t, f.Do(e), p.do(e)...)
	if f.Flight() != len(p.flight) || f.Now() != p.now || f.Nodes() != len(p.nodes) || f.Steps() != steps || len(f.Issued()) != len(p.issued) {
		t.Fatalf("%+v: %d letters at %d, %d steps, issued %v; want %d at %d, %d, %v", e, f.Flight(), f.Now(), f.Steps(), f.Issued(), len(p.flight), p.now, steps, p.issued)
	}
}

// ends fails unless a fleet and a plain one are the same.
func ends(t testing.TB, f *fleet.Fleet, p *plain) {
	t.Helper()
	if fmt.Sprintf("%+v", f.Issued()) != fmt.Sprintf("%+v", p.issued) {
		t.Fatalf("issued %+v, want %+v", f.Issued(), p.issued)
	}
	for i, x := range p.nodes {
		if state(f.Node(i)) != state(x) {
			t.Fatalf("%d: %s, want %s", i, state(f.Node(i)), state(x))
		}
	}
}

// chance is a source of steps, for so many replicas.
type chance struct {
	*rand.Rand
	nodes int
}

// number: any, of letters most often one of the first.
func (c chance) number() int {
	return one(c.Rand, 0, 0, 0, 1, -1, c.Intn(50), -c.Intn(50), math.MinInt, math.MaxInt)
}

// replica: one that there is, most often.
func (c chance) replica() int {
	if c.Intn(30) == 0 {
		return one(c.Rand, -1, c.nodes, math.MinInt, math.MaxInt)
	}
	return c.Intn(c.nodes)
}

// bytes: of a packet of few tuples, or of none; never of a letter, which begins with 1.
func (c chance) bytes(t testing.TB) []byte {
	t.Helper()
	x := one(c.Rand, tcp(c.Intn(8)), tcp6(c.Intn(8)), udp(c.Intn(8)))
	flags := 0
	if x.Proto == api.Tcp {
		flags = one(c.Rand, api.Syn, api.Syn, 0, api.Ack, api.Ack, api.Fin, api.Fin|api.Ack, api.Rst, c.Intn(256))
	}
	b := packet(t, x, flags, make([]byte, one(c.Rand, 0, 1, 2, 100))...)
	switch c.Intn(12) {
	case 0:
		b[c.Intn(len(b))] ^= 1 << c.Intn(8)
	case 1:
		b = b[:c.Intn(len(b)+1)]
	}
	if len(b) > 0 && b[0] == 1 {
		b[0] = 2
	}
	return b
}

// weight: of all kinds of floats.
func (c chance) weight() float64 {
	return one(c.Rand, 1, 1, 2, 0.5, 0, -1, math.NaN(), math.Inf(1), math.Inf(-1), math.Copysign(0, -1))
}

// admin: a command of few backends, which seldom can't be.
func (c chance) admin() api.Event {
	e := drained(c.replica(), c.Intn(4))
	if c.Intn(2) == 0 {
		e = add(e.Node, c.Intn(4), one(c.Rand, four(10, 1, 0, byte(c.Intn(9))), six(0xfd, 1, byte(c.Intn(9)))))
		e.Cmd.Weight = c.weight()
	}
	switch c.Intn(20) {
	case 0:
		e.Cmd.Backend = one(c.Rand, -1, 31, 32, math.MinInt)
	case 1:
		e.Cmd.Kind = one(c.Rand, 0, 3, -1)
	case 2:
		e.Cmd.Addr.B[15] = 1
	}
	return e
}

// step: any one that is no tick.
func (c chance) step(t testing.TB) api.Event {
	t.Helper()
	switch n := c.Intn(100); {
	case n < 30:
		return comes(c.replica(), c.bytes(t))
	case n < 70:
		return letter(api.EvDeliver, c.number())
	case n < 75:
		return letter(api.EvDrop, c.number())
	case n < 80:
		return letter(api.EvDouble, c.number())
	case n < 83:
		return api.Event{Kind: api.EvDraw, Node: c.replica(), N: c.number()}
	case n < 91:
		return c.admin()
	case n < 95:
		return voted(c.replica(), c.Intn(5), c.Intn(3) > 0)
	case n < 98:
		return api.Event{Kind: api.EvBytes, Node: c.replica(), N: c.Intn(c.nodes+2) - 1, B: c.bytes(t)}
	}
	return api.Event{Kind: c.number(), Node: c.replica(), N: c.number(), B: c.bytes(t)}
}

// any: any step, a tick in how many, of which some are rounds.
func (c chance) any(t testing.TB, in int) api.Event {
	t.Helper()
	if c.Intn(in) == 0 {
		return one(c.Rand, tick(), tick(), tick(), round())
	}
	return c.step(t)
}

// someConf: one that can be, with little room.
func (c chance) someConf() node.Conf {
	return node.Conf{Nodes: c.nodes, Slots: one(c.Rand, 2, 3, 7, 13), Flows: one(c.Rand, 1, 3, 20, 256), Mtu: one(c.Rand, 100, 130, 1500, 65535)}
}

// TestAsThePlainOne: whatever the script, step by step.
func TestAsThePlainOne(t *testing.T) {
	for seed := range int64(60) {
		c := chance{rand.New(rand.NewSource(seed)), 1 + int(seed)%6}
		conf := c.someConf()
		f, p := made(t, conf), newPlain(conf)
		for n := range int64(400) {
			alike(t, f, p, c.any(t, 2+int(seed)%9), n+1)
		}
		ends(t, f, p)
	}
}

// TestLettersOfOthers: the same, of scripts whose bytes are letters that were made in another fleet: nothing panics, and all goes on.
func TestLettersOfOthers(t *testing.T) {
	came := 0
	for seed := range int64(30) {
		c := chance{rand.New(rand.NewSource(seed)), 2 + int(seed)%4}
		conf := c.someConf()
		f, p, other := made(t, conf), newPlain(conf), newPlain(node.Conf{Nodes: 5, Slots: 7, Flows: 20, Mtu: 1500})
		for n := range int64(400) {
			e := c.any(t, 6)
			other.do(chance{c.Rand, 5}.any(t, 4))
			if len(other.flight) > 0 && c.Intn(3) == 0 {
				o := one(c.Rand, other.flight...)
				e = api.Event{Kind: api.EvBytes, Node: c.replica(), N: one(c.Rand, o.from, c.Intn(c.nodes)), B: o.b}
				came++
			}
			alike(t, f, p, e, n+1)
		}
		ends(t, f, p)
	}
	if came < 1000 {
		t.Errorf("%d letters: this told too little", came)
	}
}

// FuzzFleet: the same, of scripts that are bytes: a step's kind, its replica, its number, and what comes.
func FuzzFleet(f *testing.F) {
	f.Add([]byte{7, 0, 2, 0, 10, 0, 0, 0, 1, 1, 5, 2, 10, 0, 0, 0})
	f.Add([]byte{7, 0, 2, 0, 1, 0, 5, 0, 4, 0, 0, 0, 2, 0, 1, 0, 3, 0, 0, 0, 9, 1, 0, 7, 8, 0, 2, 1, 6, 1, 3, 0, 7, 1, 2, 1})
	f.Fuzz(func(t *testing.T, b []byte) {
		conf := conf(3)
		g, p := made(t, conf), newPlain(conf)
		for n := int64(1); len(b) >= 4 && n <= 200; n++ {
			alike(t, g, p, coded(t, b), n)
			b = b[4:]
		}
		ends(t, g, p)
	})
}

// coded: four bytes as a step.
func coded(t testing.TB, b []byte) api.Event {
	t.Helper()
	e := api.Event{Kind: int(b[0] % 12), Node: int(b[1]%5) - 1, N: int(int8(b[2])), Ok: b[3]&1 == 1}
	flags := int(b[3])
	x := tcp(int(b[2] % 16))
	if b[2]&32 != 0 {
		x, flags = udp(int(b[2]%16)), 0
	}
	e.B = packet(t, x, flags)
	if b[1]&128 != 0 {
		e.B = b[3:4]
	}
	e.Cmd = api.Cmd{Kind: 1 + int(b[3]&1), Backend: int(b[2] % 33), Addr: four(10, b[3]), Weight: float64(b[3] & 6)}
	return e
}

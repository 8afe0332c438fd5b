package ghost_test

import (
	"bytes"
	"fmt"
	"math/rand"
	"slices"
	"testing"

	"steelyard/addr"
	"steelyard/api"
	"steelyard/fleet"
	"steelyard/flow"
	"steelyard/geneve"
	"steelyard/ghost"
	"steelyard/node"
	"steelyard/tuple"
)

// plain is a model by the document's words, of lists that are gone through from the first to the last.
type plain struct {
	time  int64
	flows []plainFlow
	open  []plainGrant
	freed []node.Gone
	n     int64
}

// plainFlow is one of an owner and a tuple, with a backend and its Gen.
type plainFlow struct {
	owner int
	t     api.Tuple
	f     flow.Flow
	to    node.Gone
}

// plainGrant is an open one: an owner, a replica that asked, a tuple, a backend, its Gen, until when.
type plainGrant struct {
	owner, from int
	t           api.Tuple
	to          node.Gone
	until       int64
}

func (p *plain) step(s fleet.Seen) bool {
	if s.Now < p.time || s.Node < 0 || s.Node > 15 {
		return false
	}
	ok := false
	switch s.Kind {
	case 1:
		ok = p.granted(s, s.Grant)
	case 2:
		ok = p.framed(s, s.Frame)
	case 3:
		ok = s.Drop >= 0 && s.Drop <= 11
	case 4:
		ok = p.gone(s, s.Gone)
	}
	if ok {
		p.time = s.Now
		p.n++
	}
	return ok
}

func plainRight(g node.Gone) bool {
	return g.Backend >= 0 && g.Backend <= 31 && g.Gen >= 1 && g.Gen <= 1<<40
}

func (p *plain) granted(s fleet.Seen, g node.Grant) bool {
	to := node.Gone{Backend: g.Backend, Gen: g.Gen}
	if !addr.RightTuple(g.T) || g.From < 0 || g.From > 15 || !plainRight(to) || g.Until < s.Now || slices.Contains(p.freed, to) {
		return false
	}
	k := slices.IndexFunc(p.flows, func(f plainFlow) bool { return f.owner == s.Node && f.t == g.T })
	var f flow.Flow
	var e api.Errno
	if k >= 0 && flow.Live(p.flows[k].f, s.Now) {
		f, e = flow.Step(p.flows[k].f, g.Flags, s.Now)
		if g.New || p.flows[k].to != to || e != 0 {
			return false
		}
	} else {
		f, e = flow.Begin(g.T.Proto, g.Flags, s.Now)
		if !g.New || e != 0 {
			return false
		}
	}
	if k >= 0 {
		p.flows = slices.Delete(p.flows, k, k+1)
	}
	p.flows = append(p.flows, plainFlow{s.Node, g.T, f, to})
	p.open = append(p.open, plainGrant{s.Node, g.From, g.T, to, g.Until})
	return true
}

func (p *plain) framed(s fleet.Seen, y node.Frame) bool {
	to := node.Gone{Backend: y.Backend, Gen: y.Gen}
	_, in, e := geneve.Unwrap(y.Data)
	if slices.Contains(p.freed, to) || e != 0 || len(in.Opts) != 1 || in.Opts[0].Class != 1 || in.Opts[0].Type != 1 || !bytes.Equal(in.Opts[0].Data, eight(y.Gen)) {
		return false
	}
	seen, e := tuple.Of(in.Inner)
	if e != 0 || seen.T != y.T {
		return false
	}
	least := -1
	for k, g := range p.open {
		if g.from == s.Node && g.t == y.T && g.to == to && g.until >= s.Now && (least < 0 || g.until < p.open[least].until) {
			least = k
		}
	}
	if least < 0 {
		return false
	}
	p.open = slices.Delete(p.open, least, least+1)
	return true
}

func (p *plain) gone(s fleet.Seen, to node.Gone) bool {
	if !plainRight(to) {
		return false
	}
	for _, f := range p.flows {
		if f.to == to && flow.Live(f.f, s.Now) {
			return false
		}
	}
	for _, g := range p.open {
		if g.to == to && g.until >= s.Now {
			return false
		}
	}
	p.freed = append(p.freed, to)
	return true
}

func (p *plain) living(now int64) []ghost.Flow {
	var l []ghost.Flow
	for _, f := range p.flows {
		if flow.Live(f.f, now) {
			l = append(l, ghost.Flow{Owner: f.owner, T: f.t, Backend: f.to.Backend, Gen: f.to.Gen})
		}
	}
	slices.SortFunc(l, func(a, b ghost.Flow) int {
		if a.Owner < b.Owner || a.Owner == b.Owner && addr.LessTuple(a.T, b.T) {
			return -1
		}
		return 1
	})
	return l
}

func (p *plain) usable(now int64) int {
	n := 0
	for _, g := range p.open {
		if g.until >= now {
			n++
		}
	}
	return n
}

// alike fails unless the same may be by a model and a plain one, and both are the same then.
func alike(t testing.TB, m *ghost.Model, p *plain, s fleet.Seen) bool {
	t.Helper()
	want := p.step(s)
	if got := m.Step(s); got != want {
		t.Fatalf("Step(%+v) = %t, want %t", s, got, want)
	}
	for _, now := range []int64{0, p.time - 30, p.time, p.time + 3, p.time + 40} {
		if got, want := m.Flows(now), p.living(now); fmt.Sprint(got) != fmt.Sprint(want) {
			t.Fatalf("behind %+v: Flows(%d) = %v, want %v", s, now, got, want)
		}
		if got, want := m.Open(now), p.usable(now); got != want {
			t.Fatalf("behind %+v: Open(%d) = %d, want %d", s, now, got, want)
		}
	}
	for backend := range 3 {
		for gen := p.time/20 - 3; gen < p.time/20+4; gen++ {
			if got, want := m.Freed(backend, gen), slices.Contains(p.freed, node.Gone{Backend: backend, Gen: gen}); got != want {
				t.Fatalf("behind %+v: Freed(%d, %d) = %t", s, backend, gen, got)
			}
		}
	}
	if m.Seen() != p.n {
		t.Fatalf("behind %+v: Seen = %d, want %d", s, m.Seen(), p.n)
	}
	return want
}

// thing: any one, that goes on from what a plain model has, most often.
func thing(t testing.TB, rnd *rand.Rand, p *plain) fleet.Seen {
	t.Helper()
	s := fleet.Seen{Kind: one(rnd, 1, 1, 1, 2, 2, 3, 4), Node: rnd.Intn(3), Now: p.time + one(rnd, 0, 0, 0, 0, 1, 1, 2, int64(rnd.Intn(30)))}
	x := one(rnd, tcp(rnd.Intn(2)), udp(1), tcp6(1))
	gone := node.Gone{Backend: rnd.Intn(3), Gen: 1 + p.time/20 + rnd.Int63n(2)} // greater ones come, as the others are released
	s.Drop, s.Gone = rnd.Intn(12), gone
	s.Grant = node.Grant{From: rnd.Intn(3), T: x, Backend: gone.Backend, Gen: gone.Gen, Until: s.Now + rnd.Int63n(6), New: true}
	if x.Proto == api.Tcp {
		s.Grant.Flags = one(rnd, 0, 0, api.Syn, api.Ack, api.Fin, api.Fin|api.Ack, api.Rst)
	}
	for _, f := range p.living(s.Now) {
		if f.Owner == s.Node && f.T == x && rnd.Intn(20) > 0 {
			s.Grant.Backend, s.Grant.Gen, s.Grant.New = f.Backend, f.Gen, false
		}
	}
	s.Frame = node.Frame{Backend: gone.Backend, Gen: gone.Gen, T: x}
	if l := slices.DeleteFunc(slices.Clone(p.open), func(g plainGrant) bool { return g.until < s.Now-rnd.Int63n(2) }); len(l) > 0 {
		g := one(rnd, l...)
		s.Frame = node.Frame{Backend: g.to.Backend, Gen: g.to.Gen, T: g.t}
		if s.Kind == 2 {
			s.Node = g.from
		}
	}
	s.Frame.Data = wrapped(t, packet(t, s.Frame.T, 0), gens(s.Frame.Gen))
	if rnd.Intn(12) == 0 {
		spoil(t, rnd, &s)
	}
	return s
}

// spoil: something of it is another one.
func spoil(t testing.TB, rnd *rand.Rand, s *fleet.Seen) {
	t.Helper()
	switch rnd.Intn(12) {
	case 0:
		s.Node = one(rnd, -1, 3, 15, 16)
	case 1:
		s.Now -= int64(rnd.Intn(9))
	case 2:
		s.Grant.From = one(rnd, -1, 15, 16)
	case 3:
		s.Grant.Until = s.Now - 1
	case 4:
		s.Grant.New = !s.Grant.New
	case 5:
		s.Grant.Flags = rnd.Intn(300) - 20
	case 6:
		s.Grant.Gen, s.Gone.Gen = 0, one[int64](rnd, 0, ticks, ticks+1)
	case 7:
		s.Grant.Backend, s.Gone.Backend = one(rnd, -1, 31, 32), one(rnd, -1, 31, 32)
	case 8:
		s.Grant.T.Proto, s.Drop = 5, one(rnd, -1, 12)
	case 9:
		s.Frame.Data = wrapped(t, packet(t, one(rnd, tcp(0), udp(1)), 0), gens(s.Frame.Gen))
	case 10:
		s.Frame.Data[rnd.Intn(len(s.Frame.Data))] ^= 1 << rnd.Intn(8)
	case 11:
		s.Frame.Gen, s.Kind = rnd.Int63n(4), rnd.Intn(7)-1
	}
}

// TestAsThePlainOne: whatever is seen, and P24.5: no more frames than grants, and of a flow that lives all of its owner's grants to one backend.
func TestAsThePlainOne(t *testing.T) {
	var kinds [7]int
	refused := 0
	for seed := range int64(40) {
		rnd := rand.New(rand.NewSource(seed))
		m, p := ghost.New(), &plain{}
		grants, frames := 0, 0
		for range 400 {
			s := thing(t, rnd, p)
			was := p.living(s.Now)
			if !alike(t, m, p, s) {
				refused++
				continue
			}
			kinds[s.Kind]++
			switch s.Kind {
			case fleet.Granted:
				grants++
				for _, f := range was {
					if f.Owner == s.Node && f.T == s.Grant.T && (f.Backend != s.Grant.Backend || f.Gen != s.Grant.Gen) {
						t.Fatalf("%+v may be, where there is %+v", s, f)
					}
				}
			case fleet.Framed:
				frames++
			}
			if frames > grants {
				t.Fatalf("%d frames, and %d grants", frames, grants)
			}
		}
	}
	if kinds[1] < 1000 || kinds[2] < 1000 || kinds[3] < 500 || kinds[4] < 100 || refused < 1000 {
		t.Errorf("%v may be, %d may not: this told too little", kinds, refused)
	}
}

// FuzzModel: the same, of things that are four bytes each: a kind and how much later, replicas, a backend and flags, a tuple and until when.
func FuzzModel(f *testing.F) {
	f.Add([]byte{1, 0x10, 0x41, 0x45, 2, 1, 1, 5, 3, 0, 0, 0, 0x7c, 0, 1, 0})
	f.Add([]byte{1, 0x10, 0x41, 0x45, 1, 0x10, 0x05, 0x05, 0x0c, 0, 1, 0})
	f.Fuzz(func(t *testing.T, b []byte) {
		m, p := ghost.New(), &plain{}
		for n := 0; len(b) >= 4 && n < 200; n++ {
			alike(t, m, p, coded(t, p, b))
			b = b[4:]
		}
	})
}

// coded: four bytes as a thing that is seen behind what a plain model has seen.
func coded(t testing.TB, p *plain, b []byte) fleet.Seen {
	t.Helper()
	s := fleet.Seen{Kind: int(b[0] & 7), Now: p.time + int64(b[0]>>3), Node: int(b[1] & 15), Drop: int(b[2]%14) - 1}
	s.Gone = node.Gone{Backend: int(b[2]&3) - 1, Gen: int64(b[2] >> 2 & 1)}
	x := tcp(int(b[3] & 3))
	if b[3]&4 != 0 {
		x = udp(int(b[3] & 3))
	}
	s.Grant = node.Grant{From: int(b[1] >> 4), T: x, Flags: int(b[2] >> 3), Backend: int(b[2] & 3), Gen: 1 + int64(b[2]>>2&1), Until: s.Now - 1 + int64(b[3]>>4), New: b[3]&8 == 0}
	s.Frame = node.Frame{Backend: s.Grant.Backend, Gen: s.Grant.Gen, T: x, Data: wrapped(t, packet(t, x, 0), gens(s.Grant.Gen))}
	return s
}

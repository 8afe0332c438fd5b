package ghost_test

import (
	"fmt"
	"math/rand"
	"testing"

	"steelyard/api"
	"steelyard/fleet"
	"steelyard/geneve"
	"steelyard/ghost"
	"steelyard/node"
	"steelyard/tuple"
)

const ticks = api.MaxTicks

func four(b ...byte) api.Addr {
	var a api.Addr
	copy(a.B[:], b)
	return a
}

func six(b ...byte) api.Addr {
	a := four(b...)
	a.V6 = true
	return a
}

// tcp, tcp6, udp: tuples from that port.
func tcp(port int) api.Tuple {
	return api.Tuple{Src: four(10, 0, 0, 1), Dst: four(10, 0, 0, 2), Proto: api.Tcp, SrcPort: port, DstPort: 80}
}

func tcp6(port int) api.Tuple {
	x := tcp(port)
	x.Src, x.Dst = six(0xfd, 1), six(0xfd, 2)
	return x
}

func udp(port int) api.Tuple {
	x := tcp(port)
	x.Proto = api.Udp
	return x
}

// packet: one of a tuple, with flags, and data.
func packet(t testing.TB, x api.Tuple, flags int, data ...byte) []byte {
	t.Helper()
	b, e := tuple.Make(x, flags, data)
	if e != api.OK {
		t.Fatalf("Make(%v, %d): %d", x, flags, e)
	}
	return b
}

// eight: a number as eight bytes.
func eight(n int64) []byte {
	b := make([]byte, 8)
	for i := range b {
		b[i] = byte(n >> (56 - 8*i))
	}
	return b
}

// gens: the one option that a frame has.
func gens(gen int64) geneve.Opt {
	return geneve.Opt{Class: 1, Type: 1, Data: eight(gen)}
}

// wrapped: bytes with that within, and such options.
func wrapped(t testing.TB, inner []byte, l ...geneve.Opt) []byte {
	t.Helper()
	p := geneve.Path{Src: four(172, 16, 0, 1), Dst: four(10, 1, 0, 2), Port: 50000, Ttl: 64, Mtu: 65535}
	b, e := geneve.Wrap(p, geneve.Tunnel{Proto: geneve.Kind(inner), Vni: 1, Opts: l, Inner: inner})
	if e != api.OK {
		t.Fatalf("Wrap: %d", e)
	}
	return b
}

// granted: at an owner and a time, for the one that asked, until then, a packet of a new flow to the backend 2 of Gen 1.
func granted(by int, now int64, from int, x api.Tuple, until int64) fleet.Seen {
	return fleet.Seen{Kind: fleet.Granted, Node: by, Now: now, Grant: node.Grant{From: from, T: x, Backend: 2, Gen: 1, Until: until, New: true}}
}

// more: the same of a flow that lives.
func more(by int, now int64, from int, x api.Tuple, until int64) fleet.Seen {
	s := granted(by, now, from, x, until)
	s.Grant.New = false
	return s
}

// framed: at a replica and a time, a packet to the backend 2 of Gen 1.
func framed(t testing.TB, i int, now int64, x api.Tuple) fleet.Seen {
	t.Helper()
	return fleet.Seen{Kind: fleet.Framed, Node: i, Now: now, Frame: node.Frame{Backend: 2, Gen: 1, T: x, Data: wrapped(t, packet(t, x, 0), gens(1))}}
}

// dropped, freed: at a replica and a time.
func dropped(i int, now int64, kind int) fleet.Seen {
	return fleet.Seen{Kind: fleet.Dropped, Node: i, Now: now, Drop: kind}
}

func freed(i int, now int64, backend int, gen int64) fleet.Seen {
	return fleet.Seen{Kind: fleet.Freed, Node: i, Now: now, Gone: node.Gone{Backend: backend, Gen: gen}}
}

// state: all that can be asked of a model, up to a time.
func state(m *ghost.Model, till int64) string {
	s := fmt.Sprint(m.Seen())
	for now := int64(-1); now <= till; now++ {
		s += fmt.Sprintf("\n%d: %+v, %d", now, m.Flows(now), m.Open(now))
	}
	for backend := range 4 {
		for gen := range int64(4) {
			s += fmt.Sprint(" ", m.Freed(backend, gen))
		}
	}
	return s
}

// goes, fails: these things may be, one behind the other; none of these may be, and none changes anything.
func goes(t testing.TB, m *ghost.Model, l ...fleet.Seen) {
	t.Helper()
	for i, s := range l {
		n := m.Seen()
		if !m.Step(s) || m.Seen() != n+1 {
			t.Fatalf("at %d: %+v may not be", i, s)
		}
	}
}

func fails(t testing.TB, m *ghost.Model, l ...fleet.Seen) {
	t.Helper()
	was := state(m, 90)
	for i, s := range l {
		if m.Step(s) {
			t.Fatalf("at %d: %+v may be", i, s)
		}
	}
	if is := state(m, 90); is != was {
		t.Fatalf("what may not be has made\n%s\nof\n%s", is, was)
	}
}

// behind: a model that has seen these things.
func behind(t testing.TB, l ...fleet.Seen) *ghost.Model {
	t.Helper()
	m := ghost.New()
	goes(t, m, l...)
	return m
}

// one of some.
func one[T any](rnd *rand.Rand, l ...T) T {
	return l[rnd.Intn(len(l))]
}

package ghost_test

import (
	"math"
	"testing"

	"steelyard/api"
	"steelyard/fleet"
	"steelyard/geneve"
	"steelyard/ghost"
	"steelyard/header"
	"steelyard/node"
)

// with: a thing, changed.
func with(s fleet.Seen, change func(s *fleet.Seen)) fleet.Seen {
	change(&s)
	return s
}

// anyKind: of each kind one that may be at that time at the replica i, if that one has a grant of tcp(1).
func anyKind(t testing.TB, i int, now int64) []fleet.Seen {
	t.Helper()
	return []fleet.Seen{granted(i, now, 0, tcp(9), now), framed(t, i, now, tcp(1)), dropped(i, now, 0), freed(i, now, 7, 1)}
}

// TestTime: never below the model's, whatever the kind; what may not be does not move it on.
func TestTime(t *testing.T) {
	for k := range 4 {
		m := behind(t, granted(0, 5, 1, tcp(1), 30), granted(0, 5, 1, tcp(2), 30))
		for _, now := range []int64{math.MinInt64, -1, 0, 4} {
			fails(t, m, anyKind(t, 1, now)[k])
		}
		goes(t, m, anyKind(t, 1, 5)[k])
		fails(t, m, dropped(0, 80, 12), dropped(16, 80, 1), fleet.Seen{Now: 80}, framed(t, 1, 31, tcp(1)))
		goes(t, m, dropped(0, 9, 1))
		fails(t, m, dropped(0, 8, 1))
		goes(t, m, dropped(0, 9, 1), dropped(0, 10, 1))
	}
	fails(t, ghost.New(), dropped(0, -1, 0), granted(0, -1, 0, tcp(1), 9), freed(0, math.MinInt64, 1, 1))
	m := behind(t, dropped(0, ticks, 0), granted(0, ticks, 0, tcp(1), ticks), dropped(0, ticks+1, 0)) // no flow can be behind MaxTicks
	fails(t, m, granted(0, ticks+1, 0, tcp(2), ticks+9), more(0, ticks+1, 0, tcp(1), ticks+9))
	goes(t, m, dropped(0, math.MaxInt64, 0), freed(0, math.MaxInt64, 1, 1), dropped(0, math.MaxInt64, 11))
}

// TestNode: from 0 to 15, whatever the kind.
func TestNode(t *testing.T) {
	for k := range 4 {
		for _, i := range []int{math.MinInt, -16, -1, 16, 17, 256, 1 << 32, math.MaxInt} {
			m := behind(t, granted(0, 0, 1, tcp(1), 30))
			fails(t, m, anyKind(t, i, 1)[k])
		}
		for i := range 16 {
			m := behind(t, granted(0, 0, i, tcp(1), 30))
			goes(t, m, anyKind(t, i, 1)[k])
		}
	}
}

// TestKind: there are four.
func TestKind(t *testing.T) {
	m := behind(t, granted(0, 0, 1, tcp(1), 30))
	for _, kind := range []int{math.MinInt, -1, 0, 5, 6, 256, 257, 1<<32 + 1, math.MaxInt} {
		for _, s := range anyKind(t, 1, 1) {
			s.Kind = kind
			fails(t, m, s)
		}
	}
}

// TestOtherKinds: what stands in a thing of another kind plays no part.
func TestOtherKinds(t *testing.T) {
	all := with(granted(0, 0, 1, tcp(1), 30), func(s *fleet.Seen) {
		s.Frame, s.Drop, s.Gone = framed(t, 0, 0, tcp(2)).Frame, 99, node.Gone{Backend: -1}
	})
	m := behind(t, all)
	all = with(framed(t, 1, 0, tcp(1)), func(s *fleet.Seen) { s.Grant.From, s.Drop, s.Gone.Gen = -1, 99, 1 })
	goes(t, m, all)
	all.Kind, all.Drop = fleet.Dropped, 11
	goes(t, m, all)
	all.Kind, all.Gone = fleet.Freed, node.Gone{Backend: 1, Gen: 1}
	goes(t, m, all)
}

// TestGranted: what a grant must be, whatever is known.
func TestGranted(t *testing.T) {
	s := granted(3, 5, 4, tcp(1), 7)
	m := behind(t, dropped(0, 5, 0), freed(0, 5, 2, 2))
	for _, bad := range []func(g *node.Grant){
		func(g *node.Grant) { g.T = api.Tuple{} },
		func(g *node.Grant) { g.T.Proto = 1 },
		func(g *node.Grant) { g.T.Src.B[15] = 1 },
		func(g *node.Grant) { g.T.Src.V6 = true },
		func(g *node.Grant) { g.T.SrcPort = 65536 },
		func(g *node.Grant) { g.T.DstPort = -1 },
		func(g *node.Grant) { g.From = -1 },
		func(g *node.Grant) { g.From = 16 },
		func(g *node.Grant) { g.From = math.MinInt },
		func(g *node.Grant) { g.Backend = -1 },
		func(g *node.Grant) { g.Backend = 32 },
		func(g *node.Grant) { g.Backend = math.MaxInt },
		func(g *node.Grant) { g.Gen = 0 },
		func(g *node.Grant) { g.Gen = -1 },
		func(g *node.Grant) { g.Gen = ticks + 1 },
		func(g *node.Grant) { g.Gen = math.MinInt64 },
		func(g *node.Grant) { g.Until = 4 },
		func(g *node.Grant) { g.Until = -1 },
		func(g *node.Grant) { g.Until = math.MinInt64 },
		func(g *node.Grant) { g.Gen = 2 }, // it is released
		func(g *node.Grant) { g.New = false },
		func(g *node.Grant) { g.Flags = -1 },
		func(g *node.Grant) { g.Flags = 256 },
		func(g *node.Grant) { g.Flags = api.Rst },
		func(g *node.Grant) { g.Flags = 255 },
		func(g *node.Grant) { g.T, g.Flags = udp(1), 1 },
	} {
		fails(t, m, with(s, func(s *fleet.Seen) { bad(&s.Grant) }))
	}
	for _, good := range []func(g *node.Grant){
		func(g *node.Grant) {},
		func(g *node.Grant) { g.T = tcp6(1) },
		func(g *node.Grant) { g.T = udp(1) },
		func(g *node.Grant) { g.T.SrcPort, g.T.DstPort = 65535, 0 },
		func(g *node.Grant) { g.From = 0 },
		func(g *node.Grant) { g.From = 15 },
		func(g *node.Grant) { g.From = 3 },
		func(g *node.Grant) { g.Backend = 0 },
		func(g *node.Grant) { g.Backend = 31 },
		func(g *node.Grant) { g.Gen = 3 },
		func(g *node.Grant) { g.Gen = ticks },
		func(g *node.Grant) { g.Backend, g.Gen = 3, 2 },
		func(g *node.Grant) { g.Until = 5 },
		func(g *node.Grant) { g.Until = math.MaxInt64 },
		func(g *node.Grant) { g.Flags = 255 - api.Rst },
	} {
		m := behind(t, dropped(0, 5, 0), freed(0, 5, 2, 2))
		s := with(s, func(s *fleet.Seen) { good(&s.Grant) })
		goes(t, m, s)
		want := ghost.Flow{Owner: 3, T: s.Grant.T, Backend: s.Grant.Backend, Gen: s.Grant.Gen}
		if l := m.Flows(5); len(l) != 1 || l[0] != want || m.Open(s.Grant.Until) != 1 {
			t.Errorf("%+v: %v, %d", s, l, m.Open(5))
		}
	}
}

// TestGrantsOfAFlow: as long as it lives it is not new, and all go to its backend; behind its end it is new.
func TestGrantsOfAFlow(t *testing.T) {
	for _, x := range []api.Tuple{tcp(1), tcp6(1), udp(1)} {
		idle := int64(60)
		if x.Proto == api.Udp {
			idle = 20
		}
		elsewhere := func(s fleet.Seen, backend int, gen int64) fleet.Seen {
			return with(s, func(s *fleet.Seen) { s.Grant.Backend, s.Grant.Gen = backend, gen })
		}
		m := behind(t, granted(0, 5, 1, x, 5))
		for _, now := range []int64{5, 6, 6 + idle} {
			fails(t, m, granted(0, now, 1, x, now), elsewhere(more(0, now, 1, x, now), 2, 2), elsewhere(more(0, now, 1, x, now), 3, 1), elsewhere(granted(0, now, 1, x, now), 3, 1),
				with(more(0, now, 1, x, now), func(s *fleet.Seen) { s.Grant.Flags = 256 }), with(more(0, now, 1, x, now), func(s *fleet.Seen) { s.Grant.Flags = -1 }))
			if x.Proto == api.Udp {
				fails(t, m, with(more(0, now, 1, x, now), func(s *fleet.Seen) { s.Grant.Flags = api.Ack }))
			}
			goes(t, m, more(0, now, 2, x, now))
		}
		last := 6 + idle
		goes(t, m, granted(1, last, 1, x, last)) // of another owner it is another flow
		fails(t, m, more(0, last+idle+1, 1, x, last+99), more(2, last, 1, x, last), more(0, last, 1, tcp(2), last))
		goes(t, m, elsewhere(granted(0, last+idle+1, 1, x, last+99), 3, 9))
	}
}

// TestEndsOfAFlow: behind a Rst, and behind an Ack behind a Fin, it lives no more: the next packet is new.
func TestEndsOfAFlow(t *testing.T) {
	flags := func(s fleet.Seen, flags int) fleet.Seen {
		return with(s, func(s *fleet.Seen) { s.Grant.Flags = flags })
	}
	x := tcp(1)
	first, next := granted(0, 1, 1, x, 1), more(0, 1, 1, x, 1)
	for _, l := range [][]fleet.Seen{
		{first, flags(next, api.Rst)},
		{first, flags(next, api.Rst|api.Fin)},
		{first, flags(next, api.Fin), flags(next, api.Ack)},
		{first, flags(next, api.Fin), next, flags(next, api.Ack)},
		{flags(first, api.Fin), flags(next, api.Ack)},
		{flags(first, api.Syn), flags(next, api.Ack), flags(next, api.Fin|api.Ack), flags(next, api.Fin|api.Ack), flags(next, api.Ack|api.Psh)},
	} {
		m := behind(t, l...)
		if len(m.Flows(1)) != 0 || m.Open(1) != len(l) {
			t.Errorf("%v, %d", m.Flows(1), m.Open(1))
		}
		fails(t, m, next, flags(next, api.Ack), flags(first, api.Rst))
		goes(t, m, first, next)
	}
	m := behind(t, first, flags(next, api.Fin), flags(next, api.Fin|api.Ack), next) // it lives still
	fails(t, m, first)
	goes(t, m, next)
}

// TestFramed: what a frame must be, and that there must be a grant for it.
func TestFramed(t *testing.T) {
	x := tcp(1)
	b := packet(t, x, 0, 1, 2, 3)
	s := framed(t, 1, 5, x)
	m := behind(t, granted(0, 1, 1, x, 5), granted(0, 1, 1, tcp6(1), 9), granted(0, 1, 1, udp(1), 4))
	data := func(b []byte) fleet.Seen {
		return with(s, func(s *fleet.Seen) { s.Frame.Data = b })
	}
	turned := append([]byte(nil), s.Frame.Data...)
	turned[len(turned)-1] ^= 1
	other, _ := header.Put(header.Ip{Src: x.Src, Dst: x.Dst, Proto: 1, Ttl: 64})
	broken := append([]byte(nil), b...)
	broken[10] ^= 1
	fails(t, m,
		with(s, func(s *fleet.Seen) { s.Node = 0 }), // the owner did not ask
		with(s, func(s *fleet.Seen) { s.Node = 2 }),
		with(s, func(s *fleet.Seen) { s.Now = 6 }),
		with(s, func(s *fleet.Seen) { s.Frame.Backend = 3 }),
		with(s, func(s *fleet.Seen) { s.Frame.Gen = 2 }),
		with(s, func(s *fleet.Seen) { s.Frame.Gen = -1 }),
		with(s, func(s *fleet.Seen) { s.Frame.T = tcp6(1) }), // within there is another one's
		with(s, func(s *fleet.Seen) { s.Frame.T = tcp(2) }),
		with(framed(t, 1, 5, udp(1)), func(s *fleet.Seen) {}), // its time is over
		data(nil), data([]byte{1}), data(b), data(turned), data(s.Frame.Data[:len(s.Frame.Data)-1]), data(append(turned, 0)),
		data(wrapped(t, b)),
		data(wrapped(t, b, gens(2))),
		data(wrapped(t, b, gens(1<<32))),
		data(wrapped(t, b, gens(1<<56+1))),
		data(wrapped(t, b, gens(1), gens(1))),
		data(wrapped(t, b, gens(1), geneve.Opt{Class: 9})),
		data(wrapped(t, b, geneve.Opt{Class: 2, Type: 1, Data: eight(1)})),
		data(wrapped(t, b, geneve.Opt{Class: 0, Type: 1, Data: eight(1)})),
		data(wrapped(t, b, geneve.Opt{Class: 1, Type: 2, Data: eight(1)})),
		data(wrapped(t, b, geneve.Opt{Class: 1, Type: 129, Data: eight(1)})),
		data(wrapped(t, b, geneve.Opt{Class: 1, Type: 1})),
		data(wrapped(t, b, geneve.Opt{Class: 1, Type: 1, Data: eight(1)[4:]})),
		data(wrapped(t, b, geneve.Opt{Class: 1, Type: 1, Data: append(eight(1), 0, 0, 0, 0)})),
		data(wrapped(t, b, geneve.Opt{Class: 1, Type: 1, Data: append(make([]byte, 4), eight(1)...)})),
		data(wrapped(t, nil, gens(1))),
		data(wrapped(t, b[:len(b)-1], gens(1))),
		data(wrapped(t, broken, gens(1))),
		data(wrapped(t, other, gens(1))),
		data(wrapped(t, packet(t, tcp(2), 0), gens(1))),
		data(wrapped(t, packet(t, udp(1), 0), gens(1))),
	)
	for _, b := range [][]byte{b, packet(t, x, 255), packet(t, x, api.Rst, make([]byte, 1000)...)} { // what else is within plays no part
		m := behind(t, granted(0, 1, 1, x, 5))
		goes(t, m, data(wrapped(t, b, gens(1))))
		fails(t, m, data(wrapped(t, b, gens(1))))
	}
	goes(t, m, s, framed(t, 1, 9, tcp6(1)))
	fails(t, m, framed(t, 1, 9, tcp6(1)))
}

// TestFrameOfItsGen: the data of its option are the Gen that it was granted with, whichever.
func TestFrameOfItsGen(t *testing.T) {
	x := udp(1)
	for _, gen := range []int64{1, 2, 255, 256, 1 << 32, ticks} {
		m := behind(t, with(granted(0, 1, 0, x, 5), func(s *fleet.Seen) { s.Grant.Gen = gen }))
		s := with(framed(t, 0, 1, x), func(s *fleet.Seen) {
			s.Frame.Gen, s.Frame.Data = gen, wrapped(t, packet(t, x, 0), gens(gen))
		})
		fails(t, m, with(s, func(s *fleet.Seen) { s.Frame.Data = wrapped(t, packet(t, x, 0), gens(gen+1)) }))
		goes(t, m, s)
	}
}

// TestLeastUntil: a frame takes the grant that ends first, of those that may be used still.
func TestLeastUntil(t *testing.T) {
	x := tcp(1)
	f := func(now int64) fleet.Seen { return framed(t, 1, now, x) }
	m := behind(t, granted(0, 0, 1, x, 9), more(0, 0, 1, x, 3), more(0, 0, 1, x, 6), granted(1, 0, 1, x, 3))
	goes(t, m, f(2))        // one of those until 3 is left
	goes(t, m, f(4))        // that until 6, as 3 is over
	goes(t, m, f(7))        // that until 9
	fails(t, m, f(8), f(9)) // what is left is over
	goes(t, m, more(0, 9, 1, x, 9), f(9))
	fails(t, m, f(9))
	if m.Open(3) != 1 || m.Open(4) != 0 {
		t.Errorf("Open = %d, %d", m.Open(3), m.Open(4))
	}
}

// TestDropped: of a kind from 0 to 11.
func TestDropped(t *testing.T) {
	m := ghost.New()
	for kind := range 12 {
		goes(t, m, dropped(kind, int64(kind), kind))
	}
	for _, kind := range []int{math.MinInt, -1, 12, 13, 256, 1 << 32, math.MaxInt} {
		fails(t, m, dropped(0, 20, kind))
	}
}

// TestFreedWhen: a backend that can be, to which no flow of any owner lives, and no grant may be used.
func TestFreedWhen(t *testing.T) {
	for _, g := range []node.Gone{{}, {Backend: -1, Gen: 1}, {Backend: 32, Gen: 1}, {Backend: math.MinInt, Gen: 1}, {Backend: 2}, {Backend: 2, Gen: -1}, {Backend: 2, Gen: ticks + 1}, {Backend: 2, Gen: math.MaxInt64}} {
		fails(t, ghost.New(), freed(0, 0, g.Backend, g.Gen))
	}
	x := tcp(1)
	rst := func(s fleet.Seen) fleet.Seen {
		return with(s, func(s *fleet.Seen) { s.Grant.Flags = api.Rst })
	}
	m := behind(t, granted(0, 0, 1, x, 0), granted(9, 1, 1, udp(1), 1), granted(5, 2, 1, x, 7), rst(more(5, 3, 1, x, 3)))
	fails(t, m, freed(0, 3, 2, 1), freed(0, 7, 2, 1), freed(0, 21, 2, 1), freed(0, 60, 2, 1))
	goes(t, m, freed(0, 3, 2, 2), freed(0, 3, 3, 1), freed(0, 61, 2, 1), freed(1, 61, 2, 1), freed(0, 90, 2, 1)) // each replica says so

	m = behind(t, granted(5, 2, 1, x, 7), rst(more(5, 2, 1, x, 3))) // of flows that are over grants may be used
	fails(t, m, freed(0, 2, 2, 1), freed(0, 7, 2, 1))
	goes(t, m, framed(t, 1, 2, x)) // that until 3
	fails(t, m, freed(0, 2, 2, 1), freed(0, 7, 2, 1))
	used := behind(t, granted(5, 2, 1, x, 7), rst(more(5, 2, 1, x, 3)), framed(t, 1, 2, x), framed(t, 1, 2, x))
	goes(t, used, freed(0, 2, 2, 1))
	goes(t, m, freed(0, 8, 2, 1))
}

// TestBehindFreed is P24.4: no grant, and no frame, to a backend of a Gen that is released; to another one all goes.
func TestBehindFreed(t *testing.T) {
	x := tcp(1)
	m := behind(t, granted(0, 0, 1, x, 3), freed(0, 61, 2, 1))
	fails(t, m, granted(0, 61, 1, x, 70), granted(1, 61, 1, tcp(2), 70), more(0, 61, 1, x, 70), framed(t, 1, 61, x), granted(0, ticks, 0, udp(1), ticks))
	next := with(granted(0, 61, 1, x, 70), func(s *fleet.Seen) { s.Grant.Gen = 2 })
	goes(t, m, next, with(framed(t, 1, 61, x), func(s *fleet.Seen) {
		s.Frame.Gen, s.Frame.Data = 2, wrapped(t, packet(t, x, 0), gens(2))
	}))
	goes(t, m, with(granted(1, 61, 1, x, 70), func(s *fleet.Seen) { s.Grant.Backend = 3 }))
}

package node

import (
	"slices"

	"steelyard/api"
	"steelyard/cursor"
	"steelyard/drain"
	"steelyard/geneve"
	"steelyard/hash"
	"steelyard/letter"
	"steelyard/store"
	"steelyard/tuple"
)

// What all frames have alike; the data of their one option are a Gen.
const (
	ttl      = 64
	vni      = 1
	optClass = 1
	optType  = 1
	sizeGen  = 8
)

// granted is of no kind of drops: a packet has a backend.
const granted = -1

// packet: one comes.
func (s *step) packet(b []byte) {
	seen, e := tuple.Of(b)
	if e != api.OK {
		s.drop(refused(e))
		return
	}
	if i := s.owner(seen.T); i != s.me {
		s.ask(i, seen, b)
		return
	}
	to, kind := s.grant(Grant{From: s.me, T: seen.T, Flags: seen.Flags, Until: s.now})
	if kind != granted {
		s.drop(kind)
		return
	}
	s.frame(to, seen.T, b)
}

// refused: the kind of drops of bytes that have no tuple.
func refused(e api.Errno) int {
	switch e {
	case api.ErrProto:
		return Other
	case api.ErrFrag:
		return Fragment
	}
	return Malformed
}

// ask: a packet waits for what its owner says.
func (s *step) ask(to int, seen tuple.Seen, b []byte) {
	if len(s.waiting) >= api.MaxWait {
		s.drop(Crowded)
		return
	}
	s.last++
	s.Set(s.last, s.now+Wait)
	s.waiting[s.last] = held{owner: to, t: seen.T, b: slices.Clone(b)}
	s.send(to, letter.Letter{Kind: letter.Ask, Ask: letter.Asked{Id: s.last, T: seen.T, Flags: seen.Flags}})
}

// grant: where a packet goes; else of which kind of drops it is. What is asked has its Backend, Gen and New found here.
func (s *step) grant(g Grant) (drain.Choice, int) {
	p, kind := s.pin(&g)
	if kind != granted {
		return drain.Choice{}, kind
	}
	r := s.Pool.Get(p.Backend)
	if r.Gen != p.Gen {
		return drain.Choice{}, NoBackend // nobody can say any more where that Gen of it is
	}
	g.Backend, g.Gen = p.Backend, p.Gen
	s.Grants = append(s.Grants, g)
	return drain.Choice{Backend: p.Backend, Gen: p.Gen, Addr: r.Spec.Addr}, granted
}

// pin: the flow of what is asked, which may begin by it.
func (s *step) pin(g *Grant) (store.Pin, int) {
	p, e := s.Packet(g.T, g.Flags, s.now, g.Until)
	switch e {
	case api.OK:
		return p, granted
	case api.ErrNone:
		g.New = true
		return s.begin(*g)
	}
	return store.Pin{}, Stray
}

// begin: a new flow, to the backend that is there for it.
func (s *step) begin(g Grant) (store.Pin, int) {
	h, _ := hash.Flow(g.T)
	c, e := drain.Choose(s.Pool, s.table, h)
	if e != api.OK {
		return store.Pin{}, NoBackend
	}
	p, e := s.Begin(g.T, g.Flags, s.now, g.Until, c.Backend, c.Gen)
	switch e {
	case api.OK:
		return p, granted
	case api.ErrFull:
		return store.Pin{}, NoRoom
	}
	return store.Pin{}, Stray
}

// frame: a packet goes to a backend, within a packet.
func (s *step) frame(to drain.Choice, t api.Tuple, b []byte) {
	h, _ := hash.Flow(t)
	gen, _ := cursor.Lay([]cursor.Val{{N: uint64(to.Gen)}}, []cursor.Op{{Kind: cursor.Num, Size: sizeGen}})
	path := geneve.Path{Src: Home(s.me, to.Addr.V6), Dst: to.Addr, Port: hash.Port(h), Ttl: ttl, Mtu: s.Mtu}
	data, e := geneve.Wrap(path, geneve.Tunnel{
		Proto: geneve.Kind(b),
		Vni:   vni,
		Opts:  []geneve.Opt{{Class: optClass, Type: optType, Data: gen}},
		Inner: b,
	})
	if e != api.OK {
		s.drop(TooLong)
		return
	}
	s.Frames = append(s.Frames, Frame{Backend: to.Backend, Gen: to.Gen, T: t, Data: data})
}

package fleet

import (
	"steelyard/api"
	"steelyard/node"
)

// mostArrive is how many letters arrive in a round at most.
const mostArrive = 5000

// step: what is seen of a step, of whatever kind.
func (f *Fleet) step(e api.Event) []Seen {
	switch e.Kind {
	case api.EvDeliver:
		return f.deliver(e.N)
	case api.EvDrop:
		f.lose(e.N)
		return nil
	case api.EvDouble:
		f.double(e.N)
		return nil
	case api.EvTick:
		return f.tick()
	case api.EvRound:
		return f.round()
	}
	return f.saw(e.Node, alone(f.Node(e.Node), e))
}

// alone: what comes of a step that one replica has; nothing, if there is none, or no such step.
func alone(x *node.Node, e api.Event) node.Result {
	var r node.Result
	switch e.Kind {
	case api.EvPacket:
		r = x.Packet(e.B)
	case api.EvDraw:
		x.Draw(e.N)
	case api.EvAdmin:
		r, _ = x.Admin(e.Cmd)
	case api.EvVote:
		r, _ = x.Vote(e.N, e.Ok)
	case api.EvBytes:
		r = x.Letter(e.N, e.B)
	}
	return r
}

// tick: all clocks go on.
func (f *Fleet) tick() []Seen {
	var l []Seen
	for i, x := range f.all() {
		l = append(l, f.saw(i, x.Tick())...)
	}
	return l
}

// round: all clocks go on, then letters arrive, those too that are sent by then.
func (f *Fleet) round() []Seen {
	l := f.tick()
	for n := 0; n < mostArrive && len(f.flight) > 0; n++ {
		l = append(l, f.arrive(0)...)
	}
	return l
}

// saw: what is seen of what came of a replica's step; what it sends is on its way, what it made known is issued.
func (f *Fleet) saw(i int, r node.Result) []Seen {
	for _, o := range r.Out {
		f.post(letter{from: i, to: o.To, data: o.Data})
	}
	f.issued = append(f.issued, r.Made...)
	return seen(Seen{Node: i, Now: f.Node(i).Now()}, r)
}

// seen: each thing that came of a step, at the replica and the time of at.
func seen(at Seen, r node.Result) []Seen {
	var l []Seen
	for _, g := range r.Grants {
		s := at
		s.Kind, s.Grant = Granted, g
		l = append(l, s)
	}
	for _, y := range r.Frames {
		s := at
		s.Kind, s.Frame = Framed, y
		l = append(l, s)
	}
	for _, kind := range r.Drops {
		s := at
		s.Kind, s.Drop = Dropped, kind
		l = append(l, s)
	}
	for _, g := range r.Gone {
		s := at
		s.Kind, s.Gone = Freed, g
		l = append(l, s)
	}
	return l
}

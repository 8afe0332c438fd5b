package swim

import (
	"slices"

	"steelyard/api"
	"steelyard/member"
)

// Take: a message comes; what is sent then.
func (s *Swim) Take(m Msg) []Msg {
	if s == nil || !s.forMe(m) {
		return nil
	}
	for _, i := range m.News {
		s.hear(i)
	}
	if s.state(m.From) != api.Alive {
		s.tell(m.From) // so that it says that it is there
	}
	return s.sending(func(send func(Msg)) {
		switch m.Kind {
		case Ping:
			send(Msg{Kind: Ack, To: m.From, Seq: m.Seq})
		case Req:
			s.help(m, send)
		case Ack:
			s.answered(m.Seq, send)
		}
	})
}

// forMe: is it a message from another one to me?
func (s *Swim) forMe(m Msg) bool {
	return m.To == s.me && s.other(m.From) && m.Kind >= Ping && m.Kind <= Req && m.Seq >= 1 && len(m.News) <= Most
}

// hear: somebody says how one is.
func (s *Swim) hear(i Item) {
	is, e := s.view.Hear(i.Node, i.Info)
	switch {
	case e != api.OK:
		return
	case is:
		if s.state(i.Node) == api.Suspect {
			s.doubted[i.Node] = s.clock
		}
	case i.Node == s.me && i.Info.State != api.Alive:
		s.speakUp()
	default:
		return
	}
	s.tell(i.Node)
}

// speakUp: me says once more that it is there, as somebody does not know it yet.
func (s *Swim) speakUp() {
	s.view.Hear(s.me, member.Info{State: api.Alive, Inc: s.view.Get(s.me).Inc + 1}) // of MaxTicks it can't be more, and stays
}

// help: the target is pinged for another one, if there is room.
func (s *Swim) help(m Msg, send func(Msg)) {
	if !s.other(m.Target) || m.Target == m.From || len(s.relays) >= mostRelays {
		return
	}
	r := relay{number: s.next(), to: m.From, seq: m.Seq, began: s.clock}
	s.relays = append(s.relays, r)
	send(Msg{Kind: Ping, To: m.Target, Seq: r.number})
}

// answered: one that was pinged under this number is there; who asked for it hears so.
func (s *Swim) answered(seq int64, send func(Msg)) {
	if s.probe.number == seq {
		s.probe = probe{}
	}
	i := slices.IndexFunc(s.relays, func(r relay) bool { return r.number == seq }) // no two have the same number
	if i < 0 {
		return
	}
	r := s.relays[i]
	s.relays = slices.Delete(s.relays, i, i+1)
	send(Msg{Kind: Ack, To: r.to, Seq: r.seq})
}

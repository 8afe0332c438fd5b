package swim

import (
	"slices"

	"steelyard/api"
)

// Tick: its clock goes on; what is sent then.
func (s *Swim) Tick() []Msg {
	if s == nil {
		return nil
	}
	s.clock++
	return s.sending(func(send func(Msg)) {
		s.giveUp()
		s.askHelp(send)
		s.forget()
		if s.clock%Period == 0 {
			s.doubt()
			s.begin(send)
		}
	})
}

// giveUp: those that are doubted for too long.
func (s *Swim) giveUp() {
	for node := range s.nodes {
		if s.state(node) == api.Suspect && s.clock-s.doubted[node] >= Doubt {
			s.view.Bury(node)
			s.tell(node)
		}
	}
}

// askHelp: others are to ping the one that did not answer for a while.
func (s *Swim) askHelp(send func(Msg)) {
	p := s.probe
	if p.number == 0 || s.clock-p.began != Wait {
		return
	}
	for _, node := range s.helpers(p.target) {
		send(Msg{Kind: Req, To: node, Seq: p.number, Target: p.target})
	}
}

// helpers: the first few behind a target, going round.
func (s *Swim) helpers(target int) []int {
	var l []int
	for i := 1; i < s.nodes; i++ { // all but the target
		node := (target + i) % s.nodes
		if len(l) < Few && s.other(node) && s.state(node) != api.Dead {
			l = append(l, node)
		}
	}
	return l
}

// forget: those that are pinged for others, and don't answer.
func (s *Swim) forget() {
	s.relays = slices.DeleteFunc(s.relays, func(r relay) bool { return s.clock-r.began >= Period })
}

// doubt: the one that did not answer, not even those who asked it for this one.
func (s *Swim) doubt() {
	if s.probe.number > 0 && s.state(s.probe.target) == api.Alive {
		s.view.Doubt(s.probe.target)
		s.doubted[s.probe.target] = s.clock
		s.tell(s.probe.target)
	}
}

// begin: the next one is pinged, if there is one.
func (s *Swim) begin(send func(Msg)) {
	l := s.choices()
	s.probe = probe{}
	if len(l) > 0 {
		s.probe = probe{target: l[s.choice(len(l))], number: s.next(), began: s.clock}
		send(Msg{Kind: Ping, To: s.probe.target, Seq: s.probe.number})
	}
	s.turn++
}

// ofAll: is it a turn in which those that are given up may be pinged, too? So they hear of it when they are there again.
func (s *Swim) ofAll() bool {
	return s.turn%4 == 3
}

// choices: whom it may ping in this turn.
func (s *Swim) choices() []int {
	var l []int
	for node := range s.nodes {
		if s.other(node) && (s.ofAll() || s.state(node) != api.Dead) {
			l = append(l, node)
		}
	}
	return l
}

// choice: the place of whom it pings, of so many: as was drawn, else one behind the other, turns of either kind by themselves.
func (s *Swim) choice(many int) int {
	if len(s.drawn) > 0 {
		n := s.drawn[0] % many
		s.drawn = slices.Delete(s.drawn, 0, 1)
		return (n + many) % many
	}
	ahead := s.turn / 4
	if !s.ofAll() {
		ahead = s.turn - ahead
	}
	return int(ahead % int64(many))
}

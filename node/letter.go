package node

import (
	"steelyard/api"
	"steelyard/drain"
	"steelyard/letter"
	"steelyard/pool"
)

// letter: bytes of another replica come.
func (s *step) letter(from int, b []byte) {
	l, e := letter.Get(b)
	if e != api.OK || !s.other(from) || l.Kind == letter.Member && l.Swim.From != from {
		s.drop(Bad)
		return
	}
	switch l.Kind {
	case letter.Member:
		s.post(s.Take(l.Swim))
	case letter.Updates:
		s.merge(l.Updates)
	case letter.Marks:
		s.updates(from, s.Lacks(l.Marks))
	case letter.Ask:
		s.answer(from, l.Ask)
	case letter.Told:
		s.told(from, l.Told)
	}
}

// merge: what another one knows. Most of it is known already, so that the table stays.
func (s *step) merge(l []pool.Update) {
	news := false
	for _, u := range l {
		is, _ := s.Merge(u)
		news = news || is
	}
	if news {
		s.renew()
	}
}

// updates: what is known goes to another one, if there is anything.
func (s *step) updates(to int, l []pool.Update) {
	if len(l) > 0 {
		s.send(to, letter.Letter{Kind: letter.Updates, Updates: l})
	}
}

// answer: another one asks where a packet goes.
func (s *step) answer(from int, a letter.Asked) {
	until := s.now + Hold
	to, kind := s.grant(Grant{From: from, T: a.T, Flags: a.Flags, Until: until})
	told := letter.Answer{Id: a.Id}
	switch kind {
	case granted:
		told.Backend, told.Gen, told.Addr, told.Until = to.Backend, to.Gen, to.Addr, until
	case NoRoom:
		told.Why = letter.NoRoom
	default:
		told.Why = letter.NoOne
	}
	s.send(from, letter.Letter{Kind: letter.Told, Told: told})
}

// told: the owner says where a packet goes, which waits no more.
func (s *step) told(from int, a letter.Answer) {
	h, ok := s.waiting[a.Id]
	if !ok || h.owner != from {
		return
	}
	delete(s.waiting, a.Id)
	s.Wheel.Drop(a.Id)
	switch {
	case a.Why == letter.NoOne:
		s.drop(NoBackend)
	case a.Why == letter.NoRoom:
		s.drop(NoRoom)
	case s.now > a.Until || s.freed(a.Backend, a.Gen):
		s.drop(Late)
	default:
		s.frame(drain.Choice{Backend: a.Backend, Gen: a.Gen, Addr: a.Addr}, h.t, h.b)
	}
}

// freed: is that Gen of a backend known as released, or a greater one at all?
func (s *step) freed(backend int, gen int64) bool {
	r := s.Pool.Get(backend)
	return r.Gen > gen || r.Gen == gen && r.Life == api.Released
}

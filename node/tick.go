package node

import (
	"steelyard/drain"
	"steelyard/letter"
)

// tick: the clock goes on.
func (s *step) tick() {
	s.now++
	s.Sweep(s.now)
	s.late()
	s.post(s.Tick())
	s.tellAll(drain.Step(s.Pool, s.Store, s.me, s.now)...)
	if s.now%Every == 0 {
		s.tellOne()
	}
}

// late: packets that have waited till now.
func (s *step) late() {
	l, _ := s.Advance(s.now)
	for _, d := range l {
		delete(s.waiting, d.Id)
		s.drop(Late)
	}
}

// tellOne: one of the others, each one in its turn, gets all that is known, and is asked for what is not known here.
func (s *step) tellOne() {
	l, marks := s.others(), s.Marks()
	if len(l) == 0 || len(marks) == 0 {
		return
	}
	to := l[s.now/Every%int64(len(l))]
	s.updates(to, s.Lacks(nil))
	s.send(to, letter.Letter{Kind: letter.Marks, Marks: marks})
}

package store

import (
	"slices"

	"steelyard/addr"
	"steelyard/api"
	"steelyard/flow"
)

// question is what is asked of pins that live at a time.
type question struct {
	now int64
	is  func(p Pin) bool
}

// anyone is asked, where all that live are meant.
func anyone(Pin) bool { return true }

// Count: how many flows to a backend live.
func (s *Store) Count(backend int, gen, now int64) int {
	return len(s.answer(question{now, func(p Pin) bool { return p.Backend == backend && p.Gen == gen }}))
}

// Get: a flow that lives.
func (s *Store) Get(t api.Tuple, now int64) (Pin, bool) {
	if s == nil {
		return Pin{}, false
	}
	return s.living(t, now)
}

// List: all that live, by their tuples.
func (s *Store) List(now int64) []Pin {
	l := s.answer(question{now, anyone})
	slices.SortFunc(l, order)
	return l
}

// Len: how many live.
func (s *Store) Len(now int64) int {
	return len(s.answer(question{now, anyone}))
}

// living: the pin of a tuple, if it lives then.
func (s *Store) living(t api.Tuple, now int64) (Pin, bool) {
	p, ok := s.pins[t]
	switch {
	case !ok: // a packet of no flow is as one of a flow that lives no more
		fallthrough
	case !flow.Live(p.F, now):
		return Pin{}, false
	}
	return p, true
}

// answer: the pins that a question is true of, in no order; of nil none.
func (s *Store) answer(q question) []Pin {
	if s == nil {
		return nil
	}
	var l []Pin
	for _, p := range s.pins {
		if flow.Live(p.F, q.now) && q.is(p) {
			l = append(l, p)
		}
	}
	return l
}

// order: which of two pins, whose tuples are unlike, stands first.
func order(a, b Pin) int {
	if addr.LessTuple(a.T, b.T) {
		return -1
	}
	return 1
}

package wheel

import (
	"cmp"
	"slices"
)

// span is for how many ticks behind the clock things are due soon; all others are due late.
const span = 64

// place is where things stand that are due.
type place interface {
	put(d Due)
	drop(d Due)
}

// soon has a list of Ids, rising, of each tick. As no two ticks that are soon have the same rest by span, that tells which list is whose.
type soon [span][]int64

// late is a list of things by their times, of the same time the lesser Ids first.
type late []Due

func (s *soon) put(d Due) {
	l := &s[d.At%span]
	i, _ := slices.BinarySearch(*l, d.Id)
	*l = slices.Insert(*l, i, d.Id)
}

func (s *soon) drop(d Due) {
	l := &s[d.At%span]
	if i, ok := slices.BinarySearch(*l, d.Id); ok {
		*l = slices.Delete(*l, i, i+1)
	}
}

func (l *late) put(d Due) {
	i, _ := slices.BinarySearchFunc(*l, d, order)
	*l = slices.Insert(*l, i, d)
}

func (l *late) drop(d Due) {
	if i, ok := slices.BinarySearchFunc(*l, d, order); ok {
		*l = slices.Delete(*l, i, i+1)
	}
}

// order: which of two things is due first.
func order(a, b Due) int {
	return cmp.Or(cmp.Compare(a.At, b.At), cmp.Compare(a.Id, b.Id))
}

// pass: what is due in a place behind one time, up to another one, in order; it stands there no more.
func pass(p place, from, to int64) []Due {
	switch p := p.(type) {
	case *soon:
		return p.turn(from, to)
	case *late:
		return p.cut(to)
	}
	return nil
}

// first: what is due first in a place behind the time now.
func first(p place, now int64) (Due, bool) {
	switch p := p.(type) {
	case *soon:
		for at := now + 1; at <= now+span; at++ {
			if ids := p[at%span]; len(ids) > 0 {
				return Due{Id: ids[0], At: at}, true
			}
		}
	case *late:
		if len(*p) > 0 {
			return (*p)[0], true
		}
	}
	return Due{}, false
}

// turn takes tick by tick, but none twice: what is soon is due within span ticks.
func (s *soon) turn(from, to int64) []Due {
	var l []Due
	for at := from + 1; at <= min(to, from+span); at++ {
		for _, id := range s[at%span] {
			l = append(l, Due{Id: id, At: at})
		}
		s[at%span] = nil
	}
	return l
}

// cut takes all up to a time.
func (l *late) cut(to int64) []Due {
	n := 0
	for n < len(*l) && (*l)[n].At <= to {
		n++
	}
	taken := slices.Clone((*l)[:n])
	*l = slices.Delete(*l, 0, n)
	return taken
}

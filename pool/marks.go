package pool

import (
	"steelyard/life"
	"steelyard/sums"
)

// Mark is a backend, and the sum of what is known of it.
type Mark struct {
	Backend int
	Sum     uint32
}

// Marks: of all.
func (p *Pool) Marks() []Mark {
	var l []Mark
	for backend, r := range p.All() {
		l = append(l, Mark{Backend: backend, Sum: sumOf(r)})
	}
	return l
}

// Lacks: what somebody with such marks does not know.
func (p *Pool) Lacks(l []Mark) []Update {
	var lacks []Update
	marks := firsts(l)
	for backend, r := range p.All() {
		if sum, ok := marks[backend]; !ok || sum != sumOf(r) {
			lacks = append(lacks, Update{Backend: backend, Rec: r})
		}
	}
	return lacks
}

// firsts: of each backend the sum that the first mark with its number has; marks of others take no room, however many there are.
func firsts(l []Mark) map[int]uint32 {
	first := map[int]uint32{}
	for _, m := range l {
		if _, ok := first[m.Backend]; !ok && rightBackend(m.Backend) {
			first[m.Backend] = m.Sum
		}
	}
	return first
}

// sumOf: that of what is known of a backend, which can be, so that it has bytes.
func sumOf(r life.Rec) uint32 {
	b, _ := life.Put(r)
	return sums.Crc(b)
}

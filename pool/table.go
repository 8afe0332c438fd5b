package pool

import (
	"steelyard/api"
	"steelyard/life"
	"steelyard/maglev"
)

// Takes: does a backend take new flows?
func (p *Pool) Takes(backend int) bool {
	return p != nil && p.takes(p.known[backend])
}

// takes: does one of which this is known?
func (p *Pool) takes(r life.Rec) bool {
	return r.Life == api.Active && life.Well(r, p.nodes) && r.Spec.Weight > 0
}

// Table: whose each slot is.
func (p *Pool) Table(slots int) ([]int, api.Errno) {
	if p == nil {
		return nil, api.ErrNil
	}
	var l []maglev.Entry
	for backend, r := range p.All() {
		if p.takes(r) {
			l = append(l, maglev.Entry{Id: backend, Weight: r.Spec.Weight})
		}
	}
	return maglev.Build(l, slots)
}

package pool

import (
	"steelyard/addr"
	"steelyard/api"
	"steelyard/life"
	"steelyard/weight"
)

// Do: a command.
func (p *Pool) Do(c api.Cmd) (Update, api.Errno) {
	switch {
	case p == nil:
		return Update{}, api.ErrNil
	case !rightCmd(c):
		return Update{}, api.ErrArg
	case p.clock == api.MaxTicks:
		return Update{}, api.ErrOld
	}
	r, e := p.told(p.known[c.Backend], c)
	if e != api.OK {
		return Update{}, e
	}
	return p.keep(c.Backend, r), api.OK
}

// rightCmd: can it be? Only of CmdAdd the address plays a part.
func rightCmd(c api.Cmd) bool {
	return rightBackend(c.Backend) && (c.Kind == api.CmdDrain || c.Kind == api.CmdAdd && addr.Right(c.Addr))
}

// told: what is known of a backend behind a command that can be.
func (p *Pool) told(r life.Rec, c api.Cmd) (life.Rec, api.Errno) {
	if c.Kind == api.CmdAdd {
		return p.added(r, c)
	}
	return drained(r)
}

// added: it comes anew, if it is not there; it has what the command says of it.
func (p *Pool) added(r life.Rec, c api.Cmd) (life.Rec, api.Errno) {
	if r.Life == api.Draining {
		return life.Rec{}, api.ErrState
	}
	if r.Life != api.Active {
		if r.Gen == api.MaxTicks {
			return life.Rec{}, api.ErrOld
		}
		r = life.Rec{Gen: r.Gen + 1, Life: api.Active}
	}
	r.Spec = life.Spec{Stamp: p.clock + 1, By: p.me, Addr: c.Addr, Weight: weight.Clean(c.Weight)}
	return r, api.OK
}

// drained: it takes no new flow.
func drained(r life.Rec) (life.Rec, api.Errno) {
	if r.Gen == 0 {
		return life.Rec{}, api.ErrNone
	}
	if r.Life != api.Active {
		return life.Rec{}, api.ErrState
	}
	r.Life = api.Draining
	return r, api.OK
}

// Vote: me finds a backend well, or not.
func (p *Pool) Vote(backend int, ok bool) (Update, api.Errno) {
	if p == nil {
		return Update{}, api.ErrNil
	}
	if !rightBackend(backend) {
		return Update{}, api.ErrArg
	}
	r := p.known[backend]
	if r.Gen == 0 || r.Life == api.Released {
		return Update{}, api.ErrNone
	}
	if p.clock == api.MaxTicks {
		return Update{}, api.ErrOld
	}
	r, e := life.Voted(r, p.me, life.Vote{Stamp: p.clock + 1, Ok: ok})
	if e != api.OK {
		return Update{}, e
	}
	return p.keep(backend, r), api.OK
}

// Done: at me there is no flow to a backend, and never will be.
func (p *Pool) Done(backend int) (Update, api.Errno) {
	if p == nil {
		return Update{}, api.ErrNil
	}
	if !rightBackend(backend) {
		return Update{}, api.ErrArg
	}
	r := p.known[backend]
	if r.Gen == 0 {
		return Update{}, api.ErrNone
	}
	if r.Life != api.Draining {
		return Update{}, api.ErrState
	}
	r.Done |= 1 << p.me
	return p.keep(backend, r), api.OK
}

// Settle: those that are released now.
func (p *Pool) Settle() []Update {
	var l []Update
	for backend, r := range p.All() {
		if r.Life == api.Draining && life.Over(r, p.nodes) {
			r.Life = api.Released
			l = append(l, p.keep(backend, r))
		}
	}
	return l
}

// Merge: what another one knows; is it new?
func (p *Pool) Merge(u Update) (bool, api.Errno) {
	if p == nil {
		return false, api.ErrNil
	}
	if !rightBackend(u.Backend) || u.Rec.Gen == 0 {
		return false, api.ErrArg
	}
	was := p.known[u.Backend]
	is, e := life.Join(was, u.Rec)
	if e != api.OK {
		return false, e
	}
	p.hear(u.Rec) // its stamps count even where the other one's do not stay
	p.keep(u.Backend, is)
	return !life.Same(was, is), api.OK
}

// keep: this is known of a backend from now on.
func (p *Pool) keep(backend int, r life.Rec) Update {
	if p.known == nil {
		p.known = map[int]life.Rec{}
	}
	p.known[backend] = r
	p.hear(r)
	return Update{Backend: backend, Rec: p.Get(backend)}
}

// hear: the clock stands below none of its stamps.
func (p *Pool) hear(r life.Rec) {
	p.clock = max(p.clock, r.Spec.Stamp)
	for _, v := range r.Votes {
		p.clock = max(p.clock, v.Stamp)
	}
}

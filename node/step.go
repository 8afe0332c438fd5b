package node

import (
	"steelyard/api"
	"steelyard/letter"
	"steelyard/pool"
	"steelyard/swim"
)

// step is a replica that does something, and what has come of it so far.
type step struct {
	*replica
	Result
}

// run: what comes of doing something.
func (x *replica) run(do func(s *step)) Result {
	was := x.released()
	s := step{replica: x}
	do(&s)
	for backend, gen := range x.released() {
		if gen > 0 && gen != was[backend] {
			s.Gone = append(s.Gone, Gone{Backend: backend, Gen: gen})
		}
	}
	return s.Result
}

// became: what comes of what the pool said to a command, or a vote.
func (x *replica) became(u pool.Update, e api.Errno) (Result, api.Errno) {
	if e != api.OK {
		return Result{}, e
	}
	return x.run(func(s *step) { s.tellAll(u) }), api.OK
}

// drop: a packet, or a letter, ends here.
func (s *step) drop(kind int) {
	s.Add(kind, 1)
	s.Drops = append(s.Drops, kind)
}

// send: a letter goes to another replica. Each one gets bytes of its own.
func (s *step) send(to int, l letter.Letter) {
	if b, e := letter.Put(l); e == api.OK {
		s.Out = append(s.Out, Out{To: to, Data: b})
	}
}

// post: messages of swim go as letters.
func (s *step) post(l []swim.Msg) {
	for _, m := range l {
		s.send(m.To, letter.Letter{Kind: letter.Member, Swim: m})
	}
}

// tellAll: what became known by its own doing is told to all others, one behind the other.
func (s *step) tellAll(l ...pool.Update) {
	if len(l) > 0 {
		s.renew()
	}
	for _, u := range l {
		for _, to := range s.others() {
			s.send(to, letter.Letter{Kind: letter.Updates, Updates: []pool.Update{u}})
		}
		s.Made = append(s.Made, u)
	}
}

package life

import (
	"slices"

	"steelyard/addr"
	"steelyard/api"
	"steelyard/weight"
)

// Join: of two what is known together.
func Join(a, b Rec) (Rec, api.Errno) {
	if !Right(a) || !Right(b) {
		return Rec{}, api.ErrArg
	}
	if a.Gen != b.Gen {
		return newer(a, b), api.OK
	}
	return Rec{
		Gen:   a.Gen,
		Life:  max(a.Life, b.Life),
		Spec:  notAhead(a.Spec, b.Spec, a.Spec.ahead),
		Votes: joinVotes(a.Votes, b.Votes),
		Done:  a.Done | b.Done,
	}, api.OK
}

// Voted: with one's vote.
func Voted(r Rec, node int, v Vote) (Rec, api.Errno) {
	if !Right(r) || !rightNode(node) || v.Stamp < 1 || v.Stamp > api.MaxTicks {
		return Rec{}, api.ErrArg
	}
	if r.Gen == 0 {
		return Rec{}, api.ErrState
	}
	with := r
	with.Votes = make([]Vote, node+1)
	with.Votes[node] = v
	return Join(r, with)
}

// newer: the one of the greater Gen, with votes of its own.
func newer(a, b Rec) Rec {
	if a.Gen < b.Gen {
		a = b
	}
	a.Votes = slices.Clone(a.Votes)
	return a
}

// joinVotes: of each replica the vote that is not ahead. As the last one of both is a vote, the last one of the longer is.
func joinVotes(a, b []Vote) []Vote {
	var l []Vote
	for i := range max(len(a), len(b)) {
		v, w := voteOf(a, i), voteOf(b, i)
		l = append(l, notAhead(v, w, v.ahead))
	}
	return l
}

// voteOf: that of a replica; of one that has none the vote that is none.
func voteOf(l []Vote, node int) Vote {
	if node >= len(l) {
		return Vote{}
	}
	return l[node]
}

// notAhead: the one of two that is not ahead of the other one, as a is asked.
func notAhead[T any](a, b T, ahead func(T) bool) T {
	if ahead(b) {
		return b
	}
	return a
}

// ahead: does it stand ahead of another one, which is the later word?
func (s Spec) ahead(t Spec) bool {
	switch {
	case s.Stamp != t.Stamp:
		return s.Stamp < t.Stamp
	case s.By != t.By:
		return s.By < t.By
	case s.Addr != t.Addr:
		return addr.Less(s.Addr, t.Addr)
	}
	return weight.Less(s.Weight, t.Weight)
}

// same: are they alike in all? Weights have an order of their own, so they stand aside where the structs are held against each other.
func (s Spec) same(t Spec) bool {
	alike := weight.Same(s.Weight, t.Weight)
	s.Weight, t.Weight = 0, 0
	return alike && s == t
}

// ahead: does it stand ahead of another one? Of one stamp who finds it not well has the word.
func (v Vote) ahead(w Vote) bool {
	if v.Stamp != w.Stamp {
		return v.Stamp < w.Stamp
	}
	return v.Ok && !w.Ok
}

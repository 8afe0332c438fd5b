package flow

import "steelyard/api"

// sign is a flag, and what it does to a state.
type sign struct {
	flag int
	turn func(state int) int
}

// signs: of all flags that do something, those first whose word the later ones overrule.
func signs() [3]sign {
	return [3]sign{
		{api.Ack, acked},
		{api.Fin, func(int) int { return Fin }},
		{api.Rst, func(int) int { return Over }},
	}
}

// acked: a flow that has its Fin is over by an Ack.
func acked(state int) int {
	if state == Fin {
		return Over
	}
	return state
}

// turned: a state behind a packet with these flags.
func turned(state, flags int) int {
	for _, s := range signs() {
		if flags&s.flag != 0 {
			state = s.turn(state)
		}
	}
	return state
}

// behind: a flow behind a packet of it that came now.
func behind(f Flow, flags int, now int64) Flow {
	switch state := turned(f.State, flags); state {
	case Fin, Over: // it ends
		f.State = state
		fallthrough
	default: // as behind every packet
		f.Last = now
	}
	return f
}

package flow_test

import (
	"steelyard/api"
	"steelyard/flow"
)

// The document's words, once more, with its numbers written out: what the package answers is held against these.

// canBe: can a flow be?
func canBe(f flow.Flow) bool {
	if f.Last < 0 || f.Last > 1<<40 {
		return false
	}
	return f.Proto == 6 && (f.State == 1 || f.State == 2 || f.State == 3) || f.Proto == 17 && f.State == 1
}

// lives: can it be, and does it live at that time?
func lives(f flow.Flow, now int64) bool {
	if !canBe(f) || f.State == 3 || now < f.Last {
		return false
	}
	if f.Proto == 17 {
		return now-f.Last <= 20
	}
	return now-f.Last <= 60
}

// came: can a packet have these flags, and come then?
func came(proto, flags int, now int64) bool {
	return flags >= 0 && flags <= 255 && (proto == 6 || flags == 0) && now >= 0 && now <= 1<<40
}

func has(flags, flag int) bool { return flags/flag%2 == 1 }

func begun(proto, flags int, now int64) (flow.Flow, api.Errno) {
	if proto != 6 && proto != 17 {
		return flow.Flow{}, api.ErrProto
	}
	if !came(proto, flags, now) {
		return flow.Flow{}, api.ErrArg
	}
	if has(flags, api.Rst) {
		return flow.Flow{}, api.ErrState
	}
	if has(flags, api.Fin) {
		return flow.Flow{Proto: proto, State: 2, Last: now}, api.OK
	}
	return flow.Flow{Proto: proto, State: 1, Last: now}, api.OK
}

func stepped(f flow.Flow, flags int, now int64) (flow.Flow, api.Errno) {
	if !canBe(f) || !came(f.Proto, flags, now) {
		return flow.Flow{}, api.ErrArg
	}
	if now < f.Last {
		return flow.Flow{}, api.ErrOld
	}
	if !lives(f, now) {
		return flow.Flow{}, api.ErrState
	}
	state := f.State
	if has(flags, api.Rst) || f.State == 2 && has(flags, api.Ack) && !has(flags, api.Fin) {
		state = 3
	} else if has(flags, api.Fin) {
		state = 2
	}
	return flow.Flow{Proto: f.Proto, State: state, Last: now}, api.OK
}

// ran keeps all flows that began, one behind the other.
func ran(proto int, l []flow.Packet) (int, flow.Flow, api.Errno) {
	all := []flow.Flow{{}}
	for _, p := range l {
		last := &all[len(all)-1]
		if lives(*last, p.Now) {
			f, e := stepped(*last, p.Flags, p.Now)
			if e != api.OK {
				return 0, flow.Flow{}, e
			}
			*last = f
			continue
		}
		f, e := begun(proto, p.Flags, p.Now)
		if e != api.OK && e != api.ErrState {
			return 0, flow.Flow{}, e
		}
		if e == api.OK {
			all = append(all, f)
		}
	}
	return len(all) - 1, all[len(all)-1], api.OK
}

package geneve

import (
	"steelyard/api"
	"steelyard/cursor"
)

// Parse: bytes as a tunnel.
func Parse(b []byte) (Tunnel, api.Errno) {
	r := cursor.New(b)
	first, second := int(r.Num(1)), int(r.Num(1))
	proto, vni, last := int(r.Num(2)), int(r.Num(3)), int(r.Num(1))
	switch {
	case r.Err() != api.OK:
		return Tunnel{}, r.Err()
	case first>>shiftVersion != 0:
		return Tunnel{}, api.ErrVersion
	case second&bitsZero != 0 || last != 0:
		return Tunnel{}, api.ErrForm
	}
	opts := r.Take(4 * (first & bitsWords))
	if e := r.Err(); e != api.OK {
		return Tunnel{}, e
	}
	l, e := parseOpts(opts)
	if e != api.OK {
		return Tunnel{}, e
	}
	if critical(l) != (second&bitCritical != 0) {
		return Tunnel{}, api.ErrForm
	}
	return Tunnel{Oam: second&bitOam != 0, Proto: proto, Vni: vni, Opts: l, Inner: r.Take(r.Left())}, api.OK
}

// parseOpts: bytes as options, one behind the other.
func parseOpts(b []byte) ([]Opt, api.Errno) {
	r := cursor.New(b)
	var l []Opt
	for r.Left() > 0 {
		o := Opt{Class: int(r.Num(2)), Type: int(r.Num(1))}
		last := int(r.Num(1))
		o.Data = r.Take(4 * (last & bitsOptWords))
		if e := r.Err(); e != api.OK {
			return nil, e
		}
		if last&bitsOptZero != 0 {
			return nil, api.ErrForm
		}
		l = append(l, o)
	}
	return l, api.OK
}

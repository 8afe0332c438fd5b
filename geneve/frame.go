package geneve

import (
	"steelyard/api"
	"steelyard/header"
	"steelyard/segment"
)

// Wrap: a frame of a tunnel.
func Wrap(p Path, t Tunnel) ([]byte, api.Errno) {
	data, e := Put(t)
	if e != api.OK {
		return nil, e
	}
	if p.Mtu < 1 || p.Mtu > api.MaxBytes {
		return nil, api.ErrArg
	}
	h := header.Ip{V6: p.Src.V6, Src: p.Src, Dst: p.Dst, Proto: api.Udp, Ttl: p.Ttl}
	h.Data, e = segment.Put(h, segment.Seg{Proto: api.Udp, SrcPort: p.Port, DstPort: Port, Data: data})
	if e != api.OK {
		return nil, e
	}
	b, e := header.Put(h)
	if e != api.OK {
		return nil, e
	}
	if len(b) > p.Mtu {
		return nil, api.ErrMtu
	}
	return b, api.OK
}

// Unwrap: a frame's path, but for its Mtu, which no frame tells, and its tunnel.
func Unwrap(b []byte) (Path, Tunnel, api.Errno) {
	h, e := header.Parse(b)
	if e != api.OK {
		return Path{}, Tunnel{}, e
	}
	s, e := segment.Parse(h)
	if e != api.OK {
		return Path{}, Tunnel{}, e
	}
	if s.Proto != api.Udp || s.DstPort != Port {
		return Path{}, Tunnel{}, api.ErrProto
	}
	t, e := Parse(s.Data)
	if e != api.OK {
		return Path{}, Tunnel{}, e
	}
	return Path{Src: h.Src, Dst: h.Dst, Port: s.SrcPort, Ttl: h.Ttl}, t, api.OK
}

package segment

import (
	"bytes"

	"steelyard/api"
	"steelyard/cursor"
	"steelyard/header"
)

// Parse: a packet's data as a segment.
func Parse(h header.Ip) (Seg, api.Errno) {
	switch h.Proto {
	case api.Tcp:
		return parseTcp(h)
	case api.Udp:
		return parseUdp(h)
	}
	return Seg{}, api.ErrProto
}

func parseTcp(h header.Ip) (Seg, api.Errno) {
	v, _, e := cursor.Run(h.Data, piecesTcp())
	if e != api.OK {
		return Seg{}, e
	}
	head, zero := 4*int(v[4].N>>4), v[4].N&15
	switch {
	case head < headTcp || zero != 0:
		return Seg{}, api.ErrForm
	case len(h.Data) < head:
		return Seg{}, api.ErrShort
	case uint16(v[7].N) != sum(h, h.Data):
		return Seg{}, api.ErrSum
	}
	s := Seg{
		Proto:   api.Tcp,
		SrcPort: int(v[0].N),
		DstPort: int(v[1].N),
		Seq:     uint32(v[2].N),
		Ack:     uint32(v[3].N),
		Flags:   int(v[5].N),
		Window:  int(v[6].N),
		Urg:     int(v[8].N),
	}
	s.Opts, s.Data = behind(h.Data, headTcp, head)
	return s, api.OK
}

func parseUdp(h header.Ip) (Seg, api.Errno) {
	v, _, e := cursor.Run(h.Data, piecesUdp())
	if e != api.OK {
		return Seg{}, e
	}
	size, told := int(v[2].N), uint16(v[3].N)
	noSum := told == 0 && !h.V6
	switch {
	case len(h.Data) < size:
		return Seg{}, api.ErrShort
	case len(h.Data) > size: // a size of fewer than a head has is one of these
		return Seg{}, api.ErrForm
	case !noSum && told != sum(h, h.Data):
		return Seg{}, api.ErrSum
	}
	s := Seg{Proto: api.Udp, SrcPort: int(v[0].N), DstPort: int(v[1].N), NoSum: noSum}
	_, s.Data = behind(h.Data, headUdp, headUdp)
	return s, api.OK
}

// behind: a copy of what stands behind a head's numbers, up to the head's end, and behind that. They lie in one memory, so the room of each ends with it: what is appended to one is not written into the other one.
func behind(b []byte, numbers, head int) (opts, data []byte) {
	b = bytes.Clone(b[numbers:])
	n, all := head-numbers, len(b)
	return b[:n:n], b[n:all:all]
}

package segment

import (
	"steelyard/api"
	"steelyard/cursor"
	"steelyard/header"
)

// Put: a segment as the data of a packet.
func Put(h header.Ip, s Seg) ([]byte, api.Errno) {
	if h.Proto != api.Tcp && h.Proto != api.Udp || s.Proto != h.Proto {
		return nil, api.ErrProto
	}
	if !right(s) || s.NoSum && h.V6 {
		return nil, api.ErrArg
	}
	if size(s) > api.MaxBytes {
		return nil, api.ErrSize
	}
	b := head(s)
	b = append(b, s.Opts...)
	b = append(b, s.Data...)
	if !s.NoSum {
		n, at := sum(h, b), sumAt(s.Proto)
		b[at], b[at+1] = byte(n>>8), byte(n)
	}
	return b, api.OK
}

// right: can it be, within a packet of four?
func right(s Seg) bool {
	if !upTo(65535, s.SrcPort, s.DstPort) {
		return false
	}
	if s.Proto == api.Tcp {
		return upTo(255, s.Flags) && upTo(65535, s.Window, s.Urg) && len(s.Opts) <= mostOpts && len(s.Opts)%4 == 0 && !s.NoSum
	}
	return s.Seq == 0 && s.Ack == 0 && upTo(0, s.Flags, s.Window, s.Urg) && len(s.Opts) == 0
}

// upTo: are all numbers from 0 to most?
func upTo(most int, numbers ...int) bool {
	for _, n := range numbers {
		if n < 0 || n > most {
			return false
		}
	}
	return true
}

// size: how many bytes a segment has.
func size(s Seg) int {
	if s.Proto == api.Tcp {
		return headTcp + len(s.Opts) + len(s.Data)
	}
	return headUdp + len(s.Data)
}

// head: the numbers that a segment begins with, 0 in the sum's place.
func head(s Seg) []byte {
	src, dst := uint64(s.SrcPort), uint64(s.DstPort)
	if s.Proto == api.Udp {
		return lay(piecesUdp(), src, dst, uint64(size(s)), 0)
	}
	words := uint64(headTcp+len(s.Opts)) / 4
	return lay(piecesTcp(), src, dst, uint64(s.Seq), uint64(s.Ack), words<<4, uint64(s.Flags), uint64(s.Window), 0, uint64(s.Urg))
}

// lay: numbers as bytes, one behind the other.
func lay(l []cursor.Op, numbers ...uint64) []byte {
	var v []cursor.Val
	for _, n := range numbers {
		v = append(v, cursor.Val{N: n})
	}
	b, _ := cursor.Lay(v, l) // each goes into its bytes, as only what can be is put
	return b
}

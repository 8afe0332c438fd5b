package header

import (
	"steelyard/api"
	"steelyard/cursor"
)

// Parse: bytes as a packet.
func Parse(b []byte) (Ip, api.Errno) {
	if len(b) == 0 {
		return Ip{}, api.ErrShort
	}
	switch b[0] >> 4 {
	case versionFour:
		return parseFour(b)
	case versionSix:
		return parseSix(b)
	}
	return Ip{}, api.ErrVersion
}

func parseFour(b []byte) (Ip, api.Errno) {
	r := cursor.New(b)
	head, tos, size := 4*int(r.Num(1)&15), int(r.Num(1)), int(r.Num(2))
	id, part := int(r.Num(2)), int(r.Num(2))
	ttl, proto, sum := int(r.Num(1)), int(r.Num(1)), uint16(r.Num(2))
	h := Ip{Proto: proto, Ttl: ttl, Tos: tos, Id: id, Df: part&bitDf != 0}
	copy(h.Src.B[:], r.Take(addrFour))
	copy(h.Dst.B[:], r.Take(addrFour))
	if e := r.Err(); e != api.OK {
		return Ip{}, e
	}
	switch {
	case head < headFour || size < head:
		return Ip{}, api.ErrForm
	case len(b) < size:
		return Ip{}, api.ErrShort
	case len(b) > size:
		return Ip{}, api.ErrForm
	case sum != headSum(b[:head]):
		return Ip{}, api.ErrSum
	case part&bitZero != 0:
		return Ip{}, api.ErrForm
	case part&bitsFragment != 0:
		return Ip{}, api.ErrFrag
	}
	h.Opts = r.Take(head - headFour)
	h.Data = r.Take(r.Left())
	return h, api.OK
}

func parseSix(b []byte) (Ip, api.Errno) {
	r := cursor.New(b)
	first, size := int(r.Num(4)), int(r.Num(2))
	proto, ttl := int(r.Num(1)), int(r.Num(1))
	h := Ip{V6: true, Proto: proto, Ttl: ttl, Tos: first >> 20 & 0xff, Label: first & (1<<20 - 1)}
	h.Src.V6, h.Dst.V6 = true, true
	copy(h.Src.B[:], r.Take(addrSix))
	copy(h.Dst.B[:], r.Take(addrSix))
	h.Data = r.Take(size)
	if e := r.End(); e != api.OK {
		return Ip{}, e
	}
	return h, api.OK
}

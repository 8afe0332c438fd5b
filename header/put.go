package header

import (
	"steelyard/addr"
	"steelyard/api"
	"steelyard/cursor"
)

// Put: a packet as bytes.
func Put(h Ip) ([]byte, api.Errno) {
	if !right(h) {
		return nil, api.ErrArg
	}
	size := Size(h) + len(h.Data)
	if size > api.MaxBytes {
		return nil, api.ErrSize
	}
	b := make([]byte, size)
	if h.V6 {
		putSix(b[:Size(h)], h)
	} else {
		putFour(b[:Size(h)], h)
	}
	copy(b[Size(h):], h.Data)
	return b, api.OK
}

// right: can it be?
func right(h Ip) bool {
	if !rightAddr(h.Src, h.V6) || !rightAddr(h.Dst, h.V6) || !upTo(255, h.Proto) || !upTo(255, h.Ttl) || !upTo(255, h.Tos) {
		return false
	}
	if h.V6 {
		return h.Id == 0 && !h.Df && len(h.Opts) == 0 && upTo(1<<20-1, h.Label)
	}
	return upTo(65535, h.Id) && h.Label == 0 && len(h.Opts) <= mostOpts && len(h.Opts)%4 == 0
}

func rightAddr(a api.Addr, v6 bool) bool {
	return addr.Right(a) && a.V6 == v6
}

// upTo: is n from 0 to most?
func upTo(most, n int) bool {
	return n >= 0 && n <= most
}

func putFour(head []byte, h Ip) {
	part := 0
	if h.Df {
		part = bitDf
	}
	copy(head, lay(
		field{1, versionFour<<4 | len(head)/4},
		field{1, h.Tos},
		field{2, len(head) + len(h.Data)},
		field{2, h.Id},
		field{2, part},
		field{1, h.Ttl},
		field{1, h.Proto},
	))
	copy(head[srcFour:], h.Src.B[:addrFour])
	copy(head[dstFour:], h.Dst.B[:addrFour])
	copy(head[headFour:], h.Opts)
	copy(head[sumFour:], lay(field{2, int(headSum(head))}))
}

func putSix(head []byte, h Ip) {
	copy(head, lay(
		field{4, versionSix<<28 | h.Tos<<20 | h.Label},
		field{2, len(h.Data)},
		field{1, h.Proto},
		field{1, h.Ttl},
	))
	copy(head[srcSix:], h.Src.B[:])
	copy(head[dstSix:], h.Dst.B[:])
}

// field is a number of a head, and how many bytes it has there.
type field struct{ size, n int }

// lay: numbers as bytes, one behind the other.
func lay(l ...field) []byte {
	var v []cursor.Val
	var ops []cursor.Op
	for _, f := range l {
		v = append(v, cursor.Val{N: uint64(f.n)})
		ops = append(ops, cursor.Op{Kind: cursor.Num, Size: f.size})
	}
	b, _ := cursor.Lay(v, ops) // each goes into its bytes, as only what can be is put
	return b
}

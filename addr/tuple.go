package addr

import (
	"steelyard/api"
	"steelyard/cursor"
)

// TupleSize is how many bytes a tuple has.
const TupleSize = 38

// What a tuple's first byte says.
const (
	versionFour = 4
	versionSix  = 6
)

// RightTuple: can it be?
func RightTuple(t api.Tuple) bool {
	return Right(t.Src) && Right(t.Dst) && t.Src.V6 == t.Dst.V6 && rightProto(t.Proto) && rightPort(t.SrcPort) && rightPort(t.DstPort)
}

// LessTuple: does one stand ahead of another one?
func LessTuple(a, b api.Tuple) bool {
	switch {
	case a.Proto != b.Proto:
		return a.Proto < b.Proto
	case !same(a.Src, b.Src):
		return Less(a.Src, b.Src)
	case !same(a.Dst, b.Dst):
		return Less(a.Dst, b.Dst)
	case a.SrcPort != b.SrcPort:
		return a.SrcPort < b.SrcPort
	}
	return a.DstPort < b.DstPort
}

// Turn: the other way round.
func Turn(t api.Tuple) api.Tuple {
	t.Src, t.Dst = t.Dst, t.Src
	t.SrcPort, t.DstPort = t.DstPort, t.SrcPort
	return t
}

// PutTuple: a tuple as bytes.
func PutTuple(t api.Tuple) ([]byte, api.Errno) {
	if !RightTuple(t) {
		return nil, api.ErrArg
	}
	version := uint64(versionFour)
	if t.Src.V6 {
		version = versionSix
	}
	return cursor.Lay([]cursor.Val{
		{N: version},
		{N: uint64(t.Proto)},
		{B: t.Src.B[:]},
		{B: t.Dst.B[:]},
		{N: uint64(t.SrcPort)},
		{N: uint64(t.DstPort)},
	}, pieces())
}

// GetTuple: bytes as a tuple.
func GetTuple(b []byte) (api.Tuple, api.Errno) {
	if len(b) != TupleSize {
		return api.Tuple{}, api.ErrSize
	}
	v, _, _ := cursor.Run(b, pieces()) // no piece can be wrong, as all together have TupleSize bytes
	version := v[0].N
	if version != versionFour && version != versionSix {
		return api.Tuple{}, api.ErrVersion
	}
	t := api.Tuple{
		Src:     address(v[2].B, version == versionSix),
		Dst:     address(v[3].B, version == versionSix),
		Proto:   int(v[1].N),
		SrcPort: int(v[4].N),
		DstPort: int(v[5].N),
	}
	if !rightProto(t.Proto) {
		return api.Tuple{}, api.ErrProto
	}
	if !Right(t.Src) || !Right(t.Dst) {
		return api.Tuple{}, api.ErrForm
	}
	return t, api.OK
}

// pieces: those of a tuple's bytes: 4 or 6, Proto, Src, Dst, SrcPort, DstPort.
func pieces() []cursor.Op {
	return []cursor.Op{
		{Kind: cursor.Num, Size: 1},
		{Kind: cursor.Num, Size: 1},
		{Kind: cursor.Take, Size: sizeSix},
		{Kind: cursor.Take, Size: sizeSix},
		{Kind: cursor.Num, Size: 2},
		{Kind: cursor.Num, Size: 2},
	}
}

func rightProto(proto int) bool {
	return proto == api.Tcp || proto == api.Udp
}

func rightPort(port int) bool {
	return port >= 0 && port <= 65535
}

package life

import (
	"math"

	"steelyard/api"
	"steelyard/cursor"
)

// How many bytes numbers have.
const (
	sizeTick   = 6 // a Gen, a stamp
	sizeAddr   = 16
	sizeWeight = 8
	sizeDone   = 2
)

// What the byte ahead of an address says.
const (
	versionFour = 4
	versionSix  = 6
)

// Put: as bytes.
func Put(r Rec) ([]byte, api.Errno) {
	if !Right(r) {
		return nil, api.ErrArg
	}
	version := versionFour
	if r.Spec.Addr.V6 {
		version = versionSix
	}
	var l pieces
	l.num(sizeTick, uint64(r.Gen))
	l.num(1, uint64(r.Life))
	l.num(sizeTick, uint64(r.Spec.Stamp))
	l.num(1, uint64(r.Spec.By))
	l.num(1, uint64(version))
	l.add(cursor.Op{Kind: cursor.Take, Size: sizeAddr}, cursor.Val{B: r.Spec.Addr.B[:]})
	l.num(sizeWeight, math.Float64bits(r.Spec.Weight))
	l.num(1, uint64(len(r.Votes)))
	for _, v := range r.Votes {
		l.num(sizeTick, uint64(v.Stamp))
		l.num(1, okBit(v.Ok))
	}
	l.num(sizeDone, uint64(r.Done))
	return cursor.Lay(l.vals, l.ops)
}

// okBit: the byte that says whether a vote is Ok.
func okBit(ok bool) uint64 {
	if ok {
		return 1
	}
	return 0
}

// pieces is those that bytes are laid of.
type pieces struct {
	ops  []cursor.Op
	vals []cursor.Val
}

func (l *pieces) num(size int, n uint64) {
	l.add(cursor.Op{Kind: cursor.Num, Size: size}, cursor.Val{N: n})
}

func (l *pieces) add(o cursor.Op, v cursor.Val) {
	l.ops = append(l.ops, o)
	l.vals = append(l.vals, v)
}

// Get: bytes as what is known.
func Get(b []byte) (Rec, api.Errno) {
	r := cursor.New(b)
	x := Rec{Gen: int64(r.Num(sizeTick)), Life: int(r.Num(1))}
	var e api.Errno
	if x.Spec, e = getSpec(r); e != api.OK {
		return Rec{}, e
	}
	if x.Votes, e = getVotes(r); e != api.OK {
		return Rec{}, e
	}
	x.Done = int(r.Num(sizeDone))
	if e := r.End(); e != api.OK {
		return Rec{}, e
	}
	if !Right(x) {
		return Rec{}, api.ErrForm
	}
	return x, api.OK
}

// getSpec reads a Spec, whatever its numbers are.
func getSpec(r *cursor.Reader) (Spec, api.Errno) {
	s := Spec{Stamp: int64(r.Num(sizeTick)), By: int(r.Num(1))}
	version := r.Num(1)
	if e := r.Err(); e != api.OK {
		return Spec{}, e
	}
	if version != versionFour && version != versionSix {
		return Spec{}, api.ErrVersion
	}
	s.Addr.V6 = version == versionSix
	copy(s.Addr.B[:], r.Take(sizeAddr))
	s.Weight = math.Float64frombits(r.Num(sizeWeight))
	return s, r.Err()
}

// getVotes reads how many votes there are, and so many.
func getVotes(r *cursor.Reader) ([]Vote, api.Errno) {
	var l []Vote
	for range r.Num(1) {
		v := Vote{Stamp: int64(r.Num(sizeTick))}
		ok := r.Num(1)
		if e := r.Err(); e != api.OK {
			return nil, e
		}
		if ok > 1 {
			return nil, api.ErrForm
		}
		v.Ok = ok == 1
		l = append(l, v)
	}
	return l, r.Err()
}

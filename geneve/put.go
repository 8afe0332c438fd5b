package geneve

import (
	"steelyard/api"
	"steelyard/cursor"
)

// Put: a tunnel as bytes.
func Put(t Tunnel) ([]byte, api.Errno) {
	if !right(t) {
		return nil, api.ErrArg
	}
	size := sizeOpts(t.Opts)
	if size > mostOpts {
		return nil, api.ErrSize
	}
	var l layout
	l.num(1, size/4) // the version is 0
	l.num(1, flags(t))
	l.num(2, t.Proto)
	l.num(3, t.Vni)
	l.num(1, 0)
	for _, o := range t.Opts {
		l.num(2, o.Class)
		l.num(1, o.Type)
		l.num(1, len(o.Data)/4)
		l.take(o.Data)
	}
	l.take(t.Inner)
	return cursor.Lay(l.vals, l.ops) // each piece can be, so what may be wrong is how many bytes there are, and ErrSize
}

// right: can it be, but for how much it has?
func right(t Tunnel) bool {
	if !upTo(65535, t.Proto) || !upTo(1<<24-1, t.Vni) {
		return false
	}
	for _, o := range t.Opts {
		if !upTo(65535, o.Class) || !upTo(255, o.Type) || len(o.Data)%4 != 0 || len(o.Data) > mostData {
			return false
		}
	}
	return true
}

// upTo: is n from 0 to most?
func upTo(most, n int) bool {
	return n >= 0 && n <= most
}

// sizeOpts: how many bytes options have together.
func sizeOpts(l []Opt) int {
	n := 0
	for _, o := range l {
		n += headOpt + len(o.Data)
	}
	return n
}

// flags: a tunnel's second byte.
func flags(t Tunnel) int {
	n := 0
	if t.Oam {
		n |= bitOam
	}
	if critical(t.Opts) {
		n |= bitCritical
	}
	return n
}

// layout is the pieces that bytes are laid of.
type layout struct {
	vals []cursor.Val
	ops  []cursor.Op
}

func (l *layout) num(size, n int) {
	l.vals = append(l.vals, cursor.Val{N: uint64(n)})
	l.ops = append(l.ops, cursor.Op{Kind: cursor.Num, Size: size})
}

func (l *layout) take(b []byte) {
	l.vals = append(l.vals, cursor.Val{B: b})
	l.ops = append(l.ops, cursor.Op{Kind: cursor.Take, Size: len(b)})
}

// Package cursor is layer 1: bytes from the first to the last. See shared/doc/01-cursor.md.
package cursor

import "steelyard/api"

// Op is a piece of bytes: a number of Size bytes, or (Kind Take, Skip, Zero) as many bytes, or (Kind Rest, Size 0) all that are left.
type Op struct {
	Kind int
	Size int
}

// The kinds of pieces.
const (
	Num  = 0
	Take = 1
	Skip = 2
	Zero = 3
	Rest = 4
)

// Val is what a piece was: a number, or bytes.
type Val struct {
	N uint64
	B []byte
}

// Run: bytes by pieces: what each was up to the first error, how many bytes were read up to there, that error.
func Run(b []byte, l []Op) ([]Val, int, api.Errno) {
	r := Reader{b: b} // b needs no copy, as nobody can write into it till this answers
	var v []Val
	r.attempt(func() {
		for _, o := range l {
			v = append(v, r.piece(o))
		}
	})
	return v, r.at, r.err
}

// Lay: the bytes of which Run reads these values by these pieces.
func Lay(v []Val, l []Op) ([]byte, api.Errno) {
	if len(l) > api.MaxGrow {
		return nil, api.ErrSize
	}
	if len(v) != len(l) {
		return nil, api.ErrArg
	}
	var b []byte
	for i, o := range l {
		if !fits(v[i], o) {
			return nil, api.ErrArg
		}
		// Held against the room that is left: a sum with the greatest Size would go round.
		if length(v[i], o) > api.MaxBytes-len(b) {
			return nil, api.ErrSize
		}
		b = put(b, v[i], o)
	}
	return b, api.OK
}

// fits: can the piece be, and is the value one of it?
func fits(v Val, o Op) bool {
	switch o.Kind {
	case Num:
		return rightSize(o.Size) && v.N>>(8*o.Size) == 0 && len(v.B) == 0
	case Take:
		return len(v.B) == o.Size && v.N == 0
	case Skip, Zero:
		return o.Size >= 0 && v.N == 0 && len(v.B) == 0
	case Rest:
		return o.Size == 0 && v.N == 0
	}
	return false
}

// length: how many bytes a piece has, with a value that fits.
func length(v Val, o Op) int {
	if o.Kind == Rest {
		return len(v.B)
	}
	return o.Size
}

// put: b with a piece behind it, with a value that fits.
func put(b []byte, v Val, o Op) []byte {
	switch o.Kind {
	case Num:
		for i := o.Size - 1; i >= 0; i-- {
			b = append(b, byte(v.N>>(8*i)))
		}
		return b
	case Skip, Zero:
		return append(b, make([]byte, o.Size)...)
	}
	return append(b, v.B...)
}

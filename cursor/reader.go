package cursor

import (
	"bytes"

	"steelyard/api"
)

// Reader reads bytes, piece by piece; the first error stays.
type Reader struct {
	b   []byte
	at  int
	err api.Errno
}

// New: of bytes.
func New(b []byte) *Reader {
	return &Reader{b: bytes.Clone(b)}
}

// Num: a number of size bytes, the highest one first.
func (r *Reader) Num(size int) uint64 {
	var n uint64
	r.attempt(func() { n = r.num(size) })
	return n
}

// Take: n bytes.
func (r *Reader) Take(n int) []byte {
	var b []byte
	r.attempt(func() { b = r.take(n) })
	return b
}

// Skip: n bytes are passed over.
func (r *Reader) Skip(n int) {
	r.attempt(func() { r.skip(n) })
}

// Zero: n bytes are passed over, each of which must be 0.
func (r *Reader) Zero(n int) {
	r.attempt(func() { r.zero(n) })
}

// At: how many bytes are read.
func (r *Reader) At() int {
	if r == nil {
		return 0
	}
	return r.at
}

// Left: how many bytes are not read.
func (r *Reader) Left() int {
	if r == nil {
		return 0
	}
	return len(r.b) - r.at
}

// Err: the error that stays.
func (r *Reader) Err() api.Errno {
	if r == nil {
		return api.ErrNil
	}
	return r.err
}

// End: the error that stays; of none ErrForm, if bytes are left. It doesn't stay itself: more may be read behind it.
func (r *Reader) End() api.Errno {
	if e := r.Err(); e != api.OK {
		return e
	}
	if r.Left() > 0 {
		return api.ErrForm
	}
	return api.OK
}

// attempt reads, unless an error stays; the error by which a piece gives up stays from then on.
func (r *Reader) attempt(read func()) {
	if r.Err() != api.OK {
		return
	}
	defer func() {
		if e := recover(); e != nil {
			r.err = e.(api.Errno) // pieces give up by nothing else
		}
	}()
	read()
}

// piece reads what o says. It gives up by a panic with its error, as all below do, and then has moved nothing.
func (r *Reader) piece(o Op) Val {
	switch o.Kind {
	case Num:
		return Val{N: r.num(o.Size)}
	case Take:
		return Val{B: r.take(o.Size)}
	case Skip:
		r.skip(o.Size)
		return Val{}
	case Zero:
		r.zero(o.Size)
		return Val{}
	case Rest:
		return Val{B: r.rest(o.Size)}
	}
	panic(api.ErrArg)
}

func (r *Reader) num(size int) uint64 {
	if !rightSize(size) {
		panic(api.ErrArg)
	}
	var n uint64
	for _, x := range r.ahead(size) {
		n = n<<8 | uint64(x)
	}
	r.at += size
	return n
}

func (r *Reader) take(n int) []byte {
	b := bytes.Clone(r.ahead(n))
	r.at += n
	return b
}

func (r *Reader) skip(n int) {
	r.at += len(r.ahead(n))
}

func (r *Reader) zero(n int) {
	for _, x := range r.ahead(n) {
		if x != 0 {
			panic(api.ErrForm)
		}
	}
	r.at += n
}

func (r *Reader) rest(size int) []byte {
	if size != 0 {
		panic(api.ErrArg)
	}
	return r.take(len(r.b) - r.at)
}

// ahead: the next n bytes, in the Reader's own memory: they are not to be handed out.
func (r *Reader) ahead(n int) []byte {
	if n < 0 {
		panic(api.ErrArg)
	}
	// Held against the bytes that are left: a sum with the greatest n would go round.
	if n > len(r.b)-r.at {
		panic(api.ErrShort)
	}
	return r.b[r.at : r.at+n]
}

// rightSize: can a number have so many bytes?
func rightSize(size int) bool {
	return size >= 1 && size <= 8
}

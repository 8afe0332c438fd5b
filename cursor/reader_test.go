package cursor_test

import (
	"bytes"
	"math"
	"testing"

	"steelyard/api"
	"steelyard/cursor"
)

// stands fails unless the Reader stands at a place, with as many bytes left and with that error.
func stands(t *testing.T, r *cursor.Reader, at, left int, err api.Errno) {
	t.Helper()
	if r.At() != at || r.Left() != left || r.Err() != err {
		t.Errorf("stands at %d, %d left, error %d; want %d, %d, %d", r.At(), r.Left(), r.Err(), at, left, err)
	}
}

func TestNumHasItsHighestByteFirst(t *testing.T) {
	b := []byte{0xf1, 2, 3, 4, 5, 6, 7, 8, 9}
	want := []uint64{0xf1, 0xf102, 0xf10203, 0xf1020304, 0xf102030405, 0xf10203040506, 0xf1020304050607, 0xf102030405060708}
	for i, w := range want {
		r := cursor.New(b)
		if n := r.Num(i + 1); n != w {
			t.Errorf("Num(%d) = %x, want %x", i+1, n, w)
		}
		stands(t, r, i+1, 8-i, api.OK)
	}
}

func TestNumErrors(t *testing.T) {
	for _, size := range []int{math.MinInt, -8, -1, 0, 9, 16, 64, math.MaxInt} {
		for _, b := range [][]byte{nil, {1, 2, 3}, bytes.Repeat([]byte{1}, 80)} { // ErrArg goes ahead of ErrShort
			r := cursor.New(b)
			if n := r.Num(size); n != 0 {
				t.Errorf("Num(%d) = %d", size, n)
			}
			stands(t, r, 0, len(b), api.ErrArg)
		}
	}
	for size := 1; size <= 8; size++ {
		r := cursor.New(append([]byte{7}, bytes.Repeat([]byte{9}, size-1)...))
		r.Skip(1)
		if n := r.Num(size); n != 0 {
			t.Errorf("Num(%d) = %d of %d bytes", size, n, size-1)
		}
		stands(t, r, 1, size-1, api.ErrShort)
	}
}

func TestTake(t *testing.T) {
	r := cursor.New([]byte("abcdef"))
	if b := r.Take(2); string(b) != "ab" {
		t.Errorf("Take(2) = %q", b)
	}
	if b := r.Take(0); len(b) != 0 {
		t.Errorf("Take(0) = %q", b)
	}
	stands(t, r, 2, 4, api.OK)
	if b := r.Take(4); string(b) != "cdef" {
		t.Errorf("Take(4) = %q", b)
	}
	stands(t, r, 6, 0, api.OK)
	if b := r.Take(0); len(b) != 0 {
		t.Errorf("Take(0) = %q", b)
	}
	stands(t, r, 6, 0, api.OK)
}

func TestSkip(t *testing.T) {
	r := cursor.New([]byte{1, 2, 3, 4})
	r.Skip(0)
	r.Skip(3)
	stands(t, r, 3, 1, api.OK)
	if n := r.Num(1); n != 4 {
		t.Errorf("behind Skip(3): %d", n)
	}
}

func TestZero(t *testing.T) {
	r := cursor.New([]byte{0, 0, 0, 5})
	r.Zero(0)
	r.Zero(3)
	stands(t, r, 3, 1, api.OK)
	for place := range 3 {
		b := []byte{0, 0, 0, 0}
		b[1+place] = 0x80
		r := cursor.New(b)
		r.Zero(1)
		r.Zero(3)
		stands(t, r, 1, 3, api.ErrForm)
	}
	r = cursor.New([]byte{0, 1}) // a byte too few goes ahead of one that is not 0
	r.Zero(3)
	stands(t, r, 0, 2, api.ErrShort)
}

func TestErrorsOfBytes(t *testing.T) {
	pieces := map[string]func(r *cursor.Reader, n int) []byte{
		"Take": func(r *cursor.Reader, n int) []byte { return r.Take(n) },
		"Skip": func(r *cursor.Reader, n int) []byte { r.Skip(n); return nil },
		"Zero": func(r *cursor.Reader, n int) []byte { r.Zero(n); return nil },
	}
	for name, piece := range pieces {
		for _, c := range []struct {
			n   int
			err api.Errno
		}{
			{math.MinInt, api.ErrArg}, {-1, api.ErrArg},
			{3, api.ErrShort}, {math.MaxInt32, api.ErrShort}, {math.MaxInt - 1, api.ErrShort}, {math.MaxInt, api.ErrShort},
		} {
			r := cursor.New([]byte{0, 0, 0})
			r.Skip(1)
			if b := piece(r, c.n); len(b) != 0 {
				t.Errorf("%s(%d) = %v", name, c.n, b)
			}
			stands(t, r, 1, 2, c.err)
		}
	}
}

func TestFirstErrorStays(t *testing.T) {
	for _, c := range []struct {
		err  api.Errno
		fail func(r *cursor.Reader)
	}{
		{api.ErrArg, func(r *cursor.Reader) { r.Num(0) }},
		{api.ErrArg, func(r *cursor.Reader) { r.Take(-1) }},
		{api.ErrArg, func(r *cursor.Reader) { r.Skip(-1) }},
		{api.ErrArg, func(r *cursor.Reader) { r.Zero(-1) }},
		{api.ErrShort, func(r *cursor.Reader) { r.Num(5) }},
		{api.ErrShort, func(r *cursor.Reader) { r.Take(5) }},
		{api.ErrShort, func(r *cursor.Reader) { r.Skip(5) }},
		{api.ErrShort, func(r *cursor.Reader) { r.Zero(5) }},
		{api.ErrForm, func(r *cursor.Reader) { r.Zero(2) }},
	} {
		r := cursor.New([]byte{7, 0, 1, 2, 3})
		r.Skip(1)
		c.fail(r)
		for range 2 {
			if n := r.Num(1); n != 0 {
				t.Errorf("Num behind %d: %d", c.err, n)
			}
			if b := r.Take(1); len(b) != 0 {
				t.Errorf("Take behind %d: %v", c.err, b)
			}
			r.Skip(1)
			r.Zero(1)
			r.Num(9) // neither does another error take its place
			r.Take(-1)
			r.Skip(9)
			r.Zero(4)
			stands(t, r, 1, 4, c.err)
			if e := r.End(); e != c.err {
				t.Errorf("End behind %d: %d", c.err, e)
			}
		}
	}
}

func TestEnd(t *testing.T) {
	r := cursor.New([]byte{1, 2})
	if e := r.End(); e != api.ErrForm {
		t.Errorf("End of two bytes that are left: %d", e)
	}
	stands(t, r, 0, 2, api.OK) // End's answer does not stay
	if n := r.Num(1); n != 1 || r.End() != api.ErrForm {
		t.Errorf("Num %d, End %d", n, r.End())
	}
	r.Skip(1)
	if e := r.End(); e != api.OK {
		t.Errorf("End of none that are left: %d", e)
	}
	r.Skip(1)
	if e := r.End(); e != api.ErrShort {
		t.Errorf("End behind an error: %d", e)
	}
	for _, r := range []*cursor.Reader{cursor.New(nil), cursor.New([]byte{}), new(cursor.Reader)} {
		if e := r.End(); e != api.OK {
			t.Errorf("End of no bytes: %d", e)
		}
		stands(t, r, 0, 0, api.OK)
	}
}

func TestNilReader(t *testing.T) {
	var r *cursor.Reader
	if r.Num(1) != 0 || r.Num(0) != 0 || len(r.Take(0)) != 0 || len(r.Take(-1)) != 0 {
		t.Error("a piece of nil")
	}
	r.Skip(0)
	r.Skip(-1)
	r.Zero(0)
	r.Zero(math.MaxInt)
	stands(t, r, 0, 0, api.ErrNil)
	if e := r.End(); e != api.ErrNil {
		t.Errorf("End of nil: %d", e)
	}
}

func TestReaderSharesNoMemory(t *testing.T) {
	given := []byte("abcd")
	r := cursor.New(given)
	copy(given, "wxyz")
	first := r.Take(2)
	if string(first) != "ab" {
		t.Errorf("Take behind a change of what was given: %q", first)
	}
	first[0] = '!'
	_ = append(first, "!!!"...)
	if b := r.Take(2); string(b) != "cd" {
		t.Errorf("Take behind a change of an answer: %q", b)
	}
	if string(given) != "wxyz" {
		t.Errorf("what was given is %q", given)
	}
}

// plain is a Reader as the document's words say it, piece by piece, with nothing clever in it.
type plain struct {
	read, left []byte
	err        api.Errno
}

func (p *plain) piece(kind, size int) (uint64, []byte) {
	switch {
	case p.err != api.OK:
		return 0, nil
	case kind == cursor.Num && (size < 1 || size > 8), size < 0:
		p.err = api.ErrArg
		return 0, nil
	case size > len(p.left):
		p.err = api.ErrShort
		return 0, nil
	case kind == cursor.Zero && len(bytes.Trim(p.left[:size], "\x00")) > 0:
		p.err = api.ErrForm
		return 0, nil
	}
	b := p.left[:size]
	p.read, p.left = append(p.read, b...), p.left[size:]
	var n uint64
	for _, x := range b {
		n = n*256 + uint64(x)
	}
	switch kind {
	case cursor.Num:
		return n, nil
	case cursor.Take:
		return 0, b
	}
	return 0, nil
}

// step does one piece of a Reader.
func step(r *cursor.Reader, kind, size int) (uint64, []byte) {
	switch kind {
	case cursor.Num:
		return r.Num(size), nil
	case cursor.Take:
		return 0, r.Take(size)
	case cursor.Skip:
		r.Skip(size)
	case cursor.Zero:
		r.Zero(size)
	}
	return 0, nil
}

// FuzzReader: any pieces of any bytes, as the plain one has them. The pieces are pairs of bytes: a kind and a size.
func FuzzReader(f *testing.F) {
	f.Add([]byte{1, 2, 3, 0}, []byte{0, 2, 2, 1, 3, 1})
	f.Add([]byte{0, 0, 5, 6}, []byte{3, 2, 1, 1, 3, 1, 0, 1})
	f.Add([]byte{1, 2, 3}, []byte{0, 9, 1, 1})
	f.Add([]byte{1, 2, 3}, []byte{1, 0xff, 1, 1})
	f.Add([]byte{}, []byte{2, 0, 1, 0, 3, 0, 0, 1})
	f.Fuzz(func(t *testing.T, b, l []byte) {
		r, p := cursor.New(b), &plain{left: bytes.Clone(b)}
		for ; len(l) >= 2; l = l[2:] {
			kind, size := int(l[0])%4, int(int8(l[1]))
			n, got := step(r, kind, size)
			n2, want := p.piece(kind, size)
			if n != n2 || !bytes.Equal(got, want) {
				t.Fatalf("piece %d of %d: %d, %v; want %d, %v", kind, size, n, got, n2, want)
			}
			stands(t, r, len(p.read), len(p.left), p.err)
		}
		end := p.err
		if end == api.OK && len(p.left) > 0 {
			end = api.ErrForm
		}
		if e := r.End(); e != end {
			t.Fatalf("End %d, want %d", e, end)
		}
	})
}

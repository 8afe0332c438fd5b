package header_test

import (
	"bytes"
	"fmt"
	"math/rand"
	"strconv"
	"testing"

	"steelyard/api"
	"steelyard/header"
)

func TestParse(t *testing.T) {
	known := append([]byte{0x45, 0, 0, 0x73, 0, 0, 0x40, 0, 0x40, 0x11, 0xb8, 0x61, 0xc0, 0xa8, 0, 1, 0xc0, 0xa8, 0, 0xc7}, make([]byte, 95)...)
	for _, c := range []struct {
		name string
		b    []byte
		want header.Ip
	}{
		{"example", smallBytes(), small()},
		{"full", fullBytes(), full()},
		{"wide", wideBytes(), wide()},
		{"the head of which chapter 2 tells the sum", known, header.Ip{Src: four(192, 168, 0, 1), Dst: four(192, 168, 0, 199), Proto: 17, Ttl: 64, Df: true, Data: make([]byte, 95)}},
		{"nothing of six", append([]byte{0x60}, make([]byte, 39)...), header.Ip{V6: true, Src: six(), Dst: six()}},
	} {
		if h, e := header.Parse(c.b); !alike(h, c.want) || e != api.OK {
			t.Errorf("%s: Parse = %v, %d", c.name, h, e)
		}
	}
}

// refused: is b refused with that error, and nothing else told?
func refused(t *testing.T, b []byte, want api.Errno) {
	t.Helper()
	if h, e := header.Parse(b); e != want || !alike(h, header.Ip{}) {
		t.Errorf("Parse(%x) = %v, %d; want %d", b, h, e, want)
	}
}

func TestParseOfFewerAndMore(t *testing.T) {
	refused(t, nil, api.ErrShort)
	refused(t, []byte{}, api.ErrShort)
	for _, whole := range [][]byte{smallBytes(), fullBytes(), wideBytes()} {
		for n := range whole {
			refused(t, whole[:n], api.ErrShort)
		}
		for n := 1; n < 50; n++ {
			refused(t, append(bytes.Clone(whole), make([]byte, n)...), api.ErrForm)
		}
	}
}

func TestParseOfAnotherVersion(t *testing.T) {
	for n := range 256 {
		if v := n >> 4; v == 4 || v == 6 {
			continue
		}
		for _, whole := range [][]byte{smallBytes(), wideBytes(), {0}} { // a single byte is another version, not too short
			b := bytes.Clone(whole)
			b[0] = byte(n)
			refused(t, b, api.ErrVersion)
		}
	}
}

func TestParseOfFourThatIsNotAsItMustBe(t *testing.T) {
	for _, c := range []struct {
		name  string
		want  api.Errno
		spoil func(b []byte) []byte
	}{
		{"a head of 0 words", api.ErrForm, func(b []byte) []byte { b[0] = 0x40; return b }},
		{"a head of 4 words", api.ErrForm, func(b []byte) []byte { b[0] = 0x44; return b }},
		{"a packet of fewer bytes than the head", api.ErrForm, func(b []byte) []byte { b[3] = 27; return b }},
		{"a packet of no bytes", api.ErrForm, func(b []byte) []byte { b[3] = 0; return b }},
		{"a head of more bytes than the packet", api.ErrForm, func(b []byte) []byte { b[0] = 0x49; return b }},
		{"a packet of one byte more", api.ErrShort, func(b []byte) []byte { b[3]++; return b }},
		{"a packet of 256 more", api.ErrShort, func(b []byte) []byte { b[2]++; return b }},
		{"a packet of one byte less", api.ErrForm, func(b []byte) []byte { b[3]--; return b }},
		{"a sum of one more", api.ErrSum, func(b []byte) []byte { b[11]++; return b }},
		{"a sum of 256 more", api.ErrSum, func(b []byte) []byte { b[10]++; return b }},
		{"opts of another sum", api.ErrSum, func(b []byte) []byte { b[27]++; return b }},
		{"the first one of the three bits", api.ErrForm, func(b []byte) []byte { b[6] |= 0x80; return mend(b) }},
		{"more follows", api.ErrFrag, func(b []byte) []byte { b[6] |= 0x20; return mend(b) }},
		{"an offset of 1", api.ErrFrag, func(b []byte) []byte { b[7] = 1; return mend(b) }},
		{"an offset of 4096", api.ErrFrag, func(b []byte) []byte { b[6] |= 0x10; return mend(b) }},
		{"the greatest offset, and more follows", api.ErrFrag, func(b []byte) []byte { b[6], b[7] = 0x3f, 0xff; return mend(b) }},
	} {
		if _, e := header.Parse(c.spoil(fullBytes())); e != c.want {
			t.Errorf("%s: %d, want %d", c.name, e, c.want)
		}
		refused(t, c.spoil(fullBytes()), c.want)
	}
}

// TestParseTellsTheFirstError spoils a packet more and more, from what is asked last on.
func TestParseTellsTheFirstError(t *testing.T) {
	b := fullBytes()
	b[6] |= 0x20
	refused(t, mend(b), api.ErrFrag)
	b[6] |= 0x80
	refused(t, mend(b), api.ErrForm)
	b[10]++
	refused(t, b, api.ErrSum)
	more := append(bytes.Clone(b), 0)
	refused(t, more, api.ErrForm)
	refused(t, b[:len(b)-1], api.ErrShort)
	b[2], b[3] = 0, 27 // fewer than the head has, and fewer than there are
	refused(t, b[:26], api.ErrForm)
	refused(t, b[:20], api.ErrForm)
	refused(t, b[:19], api.ErrShort)
	b[0] = 0x43 // a head of too few words, and neither too short nor another version ahead of it
	refused(t, b, api.ErrForm)
	refused(t, b[:1], api.ErrShort)
	b[0] = 0x53
	refused(t, b[:1], api.ErrVersion)
	refused(t, b[:0], api.ErrShort)
}

// TestOneSumAlone: of the two sums that a sum going round can't tell from each other just the right one is taken.
func TestOneSumAlone(t *testing.T) {
	b := mend([]byte{0x45, 0, 0, 20, 0x7a, 0xd5, 0, 0, 0x40, 0x06, 0, 0, 0, 0, 0, 0, 0, 0, 0, 0})
	b[18], b[19] = b[10], b[11]
	if mend(b); b[10] != 0 || b[11] != 0 {
		t.Fatalf("the sum is %x", b[10:12])
	}
	if h, e := header.Parse(b); e != api.OK || h.Id != 0x7ad5 {
		t.Errorf("Parse = %v, %d", h, e)
	}
	b[10], b[11] = 0xff, 0xff
	refused(t, b, api.ErrSum)
}

func TestParseSharesNoMemory(t *testing.T) {
	for _, whole := range [][]byte{fullBytes(), wideBytes()} {
		given := bytes.Clone(whole)
		h, _ := header.Parse(given)
		same, _ := header.Parse(given)
		if !bytes.Equal(given, whole) {
			t.Errorf("what was given is %x", given)
		}
		_ = append(h.Opts, "!!!!!!!!"...)
		want, _ := header.Parse(whole)
		if !alike(h, want) {
			t.Errorf("behind what was appended to Opts: %v", h)
		}
		clear(h.Opts)
		clear(h.Data)
		if !bytes.Equal(given, whole) || !alike(same, want) {
			t.Errorf("behind a change of an answer: %x, %v", given, same)
		}
		clear(given)
		if !alike(same, want) {
			t.Errorf("behind a change of what was given: %v", same)
		}
	}
}

// TestPutAndParse is P4.4, and P6: there and back.
func TestPutAndParse(t *testing.T) {
	rnd := rand.New(rand.NewSource(2))
	for range 3000 {
		h := some(rnd)
		b, e := header.Put(h)
		if e != api.OK {
			t.Fatalf("Put(%v) = %d", h, e)
		}
		if back, e := header.Parse(b); !alike(back, h) || e != api.OK {
			t.Fatalf("Parse(Put(%v)) = %v, %d", h, back, e)
		}
		b[rnd.Intn(len(b))] ^= 1 << rnd.Intn(8)
		thereAndBack(t, b)
		if b[0]>>4 == 4 && 4*int(b[0]&15) <= len(b) && b[0]&15 >= 5 {
			thereAndBack(t, mend(b))
		}
	}
}

// thereAndBack: what Parse takes Put writes as it was, but of more than MaxBytes bytes; what it refuses tells nothing else.
func thereAndBack(t *testing.T, b []byte) {
	t.Helper()
	h, e := header.Parse(b)
	if want, wantE := plain(b); e != wantE || !alike(h, want) {
		t.Fatalf("Parse(%x) = %v, %d; want %v, %d", b, h, e, want, wantE)
	}
	if e != api.OK {
		return
	}
	back, e := header.Put(h)
	if len(b) > api.MaxBytes {
		if e != api.ErrSize {
			t.Fatalf("Put of %d bytes: %d", len(b), e)
		}
		return
	}
	if !bytes.Equal(back, b) || e != api.OK {
		t.Fatalf("Put(Parse(%x)) = %x, %d", b, back, e)
	}
}

// TestMostBytesOfSix: a packet of six may have more bytes than Put writes.
func TestMostBytesOfSix(t *testing.T) {
	b := append(wideBytes()[:40], make([]byte, 65535)...)
	b[4], b[5] = 0xff, 0xff
	if h, e := header.Parse(b); len(h.Data) != 65535 || e != api.OK {
		t.Errorf("Parse of %d bytes = %d, %d", len(b), len(h.Data), e)
	}
	thereAndBack(t, b)
	refused(t, append(b, 0), api.ErrForm)
	refused(t, b[:len(b)-1], api.ErrShort)
}

// TestTurnedBits is P4.5: one bit of a head of four turned, but of the four that say how long it is.
func TestTurnedBits(t *testing.T) {
	rnd := rand.New(rand.NewSource(3))
	l := []header.Ip{small(), full()}
	for len(l) < 200 {
		if h := some(rnd); !h.V6 {
			l = append(l, h)
		}
	}
	for _, h := range l {
		b, _ := header.Put(h)
		for i := range 8 * header.Size(h) {
			if i >= 4 && i < 8 {
				continue
			}
			c := bytes.Clone(b)
			c[i/8] ^= 0x80 >> (i % 8)
			if x, e := header.Parse(c); e == api.OK && !x.V6 {
				t.Fatalf("%x with the bit %d turned: %v", b, i, x)
			}
		}
	}
}

// plain is Parse as the document's words say it, by texts of bits, with nothing clever in it.
func plain(b []byte) (header.Ip, api.Errno) {
	s := ""
	for _, x := range b[:min(len(b), 60)] {
		s += fmt.Sprintf("%08b", x)
	}
	next := func(n int) int {
		x, _ := strconv.ParseInt(s[:n], 2, 64)
		s = s[n:]
		return int(x)
	}
	address := func(n int) api.Addr {
		a := api.Addr{V6: n == 16}
		for i := range n {
			a.B[i] = byte(next(8))
		}
		return a
	}
	if len(b) == 0 {
		return header.Ip{}, api.ErrShort
	}
	version := next(4)
	if version == 4 && len(b) >= 20 {
		var h header.Ip
		words, tos, size, id, zero, df, more, offset := next(4), next(8), next(16), next(16), next(1), next(1), next(1), next(13)
		h.Tos, h.Id, h.Df, h.Ttl, h.Proto = tos, id, df == 1, next(8), next(8)
		sum := next(16)
		h.Src, h.Dst = address(4), address(4)
		switch {
		case words < 5, size < words*4:
			return header.Ip{}, api.ErrForm
		case len(b) < size:
			return header.Ip{}, api.ErrShort
		case len(b) > size:
			return header.Ip{}, api.ErrForm
		case sum != inet(b[:words*4]):
			return header.Ip{}, api.ErrSum
		case zero == 1:
			return header.Ip{}, api.ErrForm
		case more == 1, offset != 0:
			return header.Ip{}, api.ErrFrag
		}
		h.Opts, h.Data = b[20:words*4], b[words*4:]
		return h, api.OK
	}
	if version == 6 && len(b) >= 40 {
		h := header.Ip{V6: true, Tos: next(8), Label: next(20)}
		size := next(16)
		h.Proto, h.Ttl, h.Src, h.Dst = next(8), next(8), address(16), address(16)
		switch {
		case len(b)-40 < size:
			return header.Ip{}, api.ErrShort
		case len(b)-40 > size:
			return header.Ip{}, api.ErrForm
		}
		h.Data = b[40:]
		return h, api.OK
	}
	if version == 4 || version == 6 {
		return header.Ip{}, api.ErrShort
	}
	return header.Ip{}, api.ErrVersion
}

// inet: the sum of a head with 0 in its place, by one remainder of the whole; no head is all 0.
func inet(head []byte) int {
	all := 0
	for i := 0; i < len(head); i += 2 {
		if i != 10 {
			all += int(head[i])*256 + int(head[i+1])
		}
	}
	return 65535 - ((all-1)%65535 + 1)
}

// FuzzParse: any bytes are read as the plain one reads them, and written as they were; so are bytes whose sum is mended.
func FuzzParse(f *testing.F) {
	f.Add(smallBytes())
	f.Add(fullBytes())
	f.Add(wideBytes())
	f.Add([]byte{})
	f.Add([]byte{0x45})
	f.Fuzz(func(t *testing.T, b []byte) {
		thereAndBack(t, b)
		if len(b) >= 20 && b[0]&15 >= 5 && 4*int(b[0]&15) <= len(b) {
			thereAndBack(t, mend(bytes.Clone(b)))
		}
	})
}

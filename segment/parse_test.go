package segment_test

import (
	"bytes"
	"math"
	"testing"

	"steelyard/api"
	"steelyard/header"
	"steelyard/segment"
)

func TestParse(t *testing.T) {
	for _, k := range knowns() {
		if s, e := segment.Parse(with(k.h, k.b)); !alike(s, k.s) || e != api.OK {
			t.Errorf("%s: Parse = %v, %d; want %v", k.name, s, e, k.s)
		}
	}
}

// refused: are a packet's data refused with that error, and nothing else told?
func refused(t *testing.T, h header.Ip, want api.Errno) {
	t.Helper()
	if s, e := segment.Parse(h); e != want || !alike(s, segment.Seg{}) {
		t.Errorf("Parse(%v) = %v, %d; want %d", h, s, e, want)
	}
}

func TestParseOfAnotherProtocol(t *testing.T) {
	l := []int{math.MinInt, -6, -1, 256 + api.Tcp, 256 + api.Udp, 1<<32 + api.Tcp, math.MaxInt}
	for n := range 256 {
		if n != api.Tcp && n != api.Udp {
			l = append(l, n)
		}
	}
	for _, n := range l {
		for _, k := range knowns() {
			k.h.Proto = n
			refused(t, with(k.h, k.b), api.ErrProto)
			refused(t, k.h, api.ErrProto) // ahead of what is too short
		}
	}
}

func TestParseOfFewerAndMore(t *testing.T) {
	for _, k := range knowns() {
		refused(t, with(k.h, []byte{}), api.ErrShort)
		for n := range k.b {
			want := api.ErrShort
			if k.h.Proto == api.Tcp && n >= 20+len(k.s.Opts) { // TCP doesn't say how many data it has: the sum is asked
				want = api.ErrSum
			}
			refused(t, with(k.h, k.b[:n]), want)
		}
		for n := 1; n < 50; n++ {
			want := api.ErrForm
			if k.h.Proto == api.Tcp {
				want = api.ErrSum
			}
			refused(t, with(k.h, append(bytes.Clone(k.b), make([]byte, n)...)), want)
		}
	}
}

func TestParseOfTcpThatIsNotAsItMustBe(t *testing.T) {
	for _, c := range []struct {
		name  string
		want  api.Errno
		spoil func(h header.Ip, b []byte) []byte
	}{
		{"a head of 0 words", api.ErrForm, func(h header.Ip, b []byte) []byte { b[12] = 0; return mend(h, b) }},
		{"a head of 4 words", api.ErrForm, func(h header.Ip, b []byte) []byte { b[12] = 0x40; return mend(h, b) }},
		{"a head of more bytes than there are", api.ErrShort, func(h header.Ip, b []byte) []byte { b[12] = 0x90; return mend(h, b) }},
		{"a head of 15 words", api.ErrShort, func(h header.Ip, b []byte) []byte { b[12] = 0xf0; return mend(h, b) }},
		{"the first one of the four bits", api.ErrForm, func(h header.Ip, b []byte) []byte { b[12] |= 8; return mend(h, b) }},
		{"the second one", api.ErrForm, func(h header.Ip, b []byte) []byte { b[12] |= 4; return mend(h, b) }},
		{"the third one", api.ErrForm, func(h header.Ip, b []byte) []byte { b[12] |= 2; return mend(h, b) }},
		{"the last one", api.ErrForm, func(h header.Ip, b []byte) []byte { b[12] |= 1; return mend(h, b) }},
		{"a sum of one more", api.ErrSum, func(_ header.Ip, b []byte) []byte { b[17]++; return b }},
		{"a sum of 256 more", api.ErrSum, func(_ header.Ip, b []byte) []byte { b[16]++; return b }},
		{"no sum", api.ErrSum, func(_ header.Ip, b []byte) []byte { b[16], b[17] = 0, 0; return b }},
		{"opts of another sum", api.ErrSum, func(_ header.Ip, b []byte) []byte { b[27]++; return b }},
		{"a last byte of another sum", api.ErrSum, func(_ header.Ip, b []byte) []byte { b[32]++; return b }},
	} {
		k := full()
		if _, e := segment.Parse(with(k.h, c.spoil(k.h, k.b))); e != c.want {
			t.Errorf("%s: %d, want %d", c.name, e, c.want)
		}
		refused(t, with(k.h, k.b), c.want)
	}
}

func TestParseOfUdpThatIsNotAsItMustBe(t *testing.T) {
	for _, c := range []struct {
		name  string
		want  api.Errno
		spoil func(h header.Ip, b []byte) []byte
	}{
		{"one byte more", api.ErrShort, func(h header.Ip, b []byte) []byte { b[5]++; return mend(h, b) }},
		{"256 more", api.ErrShort, func(h header.Ip, b []byte) []byte { b[4]++; return mend(h, b) }},
		{"one byte less", api.ErrForm, func(h header.Ip, b []byte) []byte { b[5]--; return mend(h, b) }},
		{"no byte", api.ErrForm, func(h header.Ip, b []byte) []byte { b[5] = 0; return mend(h, b) }},
		{"7 bytes", api.ErrForm, func(h header.Ip, b []byte) []byte { b[5] = 7; return mend(h, b) }},
		{"7 bytes of 8", api.ErrForm, func(h header.Ip, b []byte) []byte { b[5] = 7; return mend(h, b[:8]) }},
		{"7 bytes of 7", api.ErrShort, func(h header.Ip, b []byte) []byte { b[5] = 7; return b[:7] }},
		{"a sum of one more", api.ErrSum, func(_ header.Ip, b []byte) []byte { b[7]++; return b }},
		{"a sum of 256 more", api.ErrSum, func(_ header.Ip, b []byte) []byte { b[6]++; return b }},
		{"a last byte of another sum", api.ErrSum, func(_ header.Ip, b []byte) []byte { b[len(b)-1]++; return b }},
		{"no sum, and fewer bytes", api.ErrShort, func(_ header.Ip, b []byte) []byte { b[6], b[7] = 0, 0; return b[:len(b)-1] }},
		{"no sum, and more bytes", api.ErrForm, func(_ header.Ip, b []byte) []byte { b[6], b[7] = 0, 0; return append(b, 0) }},
	} {
		for _, k := range []known{small(), wide()} {
			b := c.spoil(k.h, bytes.Clone(k.b))
			if _, e := segment.Parse(with(k.h, b)); e != c.want {
				t.Errorf("%s: %d, want %d", c.name, e, c.want)
			}
			refused(t, with(k.h, b), c.want)
		}
	}
}

// TestNoSumWithinFourAlone: 0 in the place of a datagram's sum is none in a packet of four, and a wrong one in one of six.
func TestNoSumWithinFourAlone(t *testing.T) {
	k := small()
	k.b[6], k.b[7], k.s.NoSum = 0, 0, true
	if s, e := segment.Parse(with(k.h, k.b)); !alike(s, k.s) || e != api.OK {
		t.Errorf("Parse = %v, %d", s, e)
	}
	k = wide()
	k.b[6], k.b[7] = 0, 0
	refused(t, with(k.h, k.b), api.ErrSum)
}

// TestParseTellsTheFirstError spoils a segment more and more, from what is asked last on.
func TestParseTellsTheFirstError(t *testing.T) {
	k := full()
	k.b[16]++
	refused(t, with(k.h, k.b), api.ErrSum)
	refused(t, with(k.h, k.b[:27]), api.ErrShort)
	k.b[12] |= 1
	refused(t, with(k.h, k.b[:27]), api.ErrForm)
	k.b[12] = 0x40
	refused(t, with(k.h, k.b[:20]), api.ErrForm)
	refused(t, with(k.h, k.b[:19]), api.ErrShort)
	k.h.Proto = 1
	refused(t, with(k.h, k.b[:19]), api.ErrProto)

	k = wide()
	k.b[6]++
	refused(t, with(k.h, k.b), api.ErrSum)
	refused(t, with(k.h, append(bytes.Clone(k.b), 0)), api.ErrForm)
	refused(t, with(k.h, k.b[:len(k.b)-1]), api.ErrShort)
	k.b[5] = 7
	refused(t, with(k.h, k.b[:8]), api.ErrForm)
	refused(t, with(k.h, k.b[:7]), api.ErrShort)
}

// TestParseAsThePacketSays: the addresses, their kind and the protocol go into the sum, and nothing else of the packet.
func TestParseAsThePacketSays(t *testing.T) {
	for _, k := range []known{small(), full(), wide()} {
		for _, spoil := range []func(h *header.Ip){
			func(h *header.Ip) { h.Src.B[0]++ }, func(h *header.Ip) { h.Src.B[3]++ },
			func(h *header.Ip) { h.Dst.B[0]++ }, func(h *header.Ip) { h.Dst.B[3]++ },
		} {
			h := k.h
			spoil(&h)
			refused(t, with(h, k.b), api.ErrSum)
		}
		h := k.h
		h.Ttl, h.Tos, h.Id, h.Df, h.Label, h.Opts = -1, 7, 8, true, 9, []byte{1, 2, 3, 4}
		if s, e := segment.Parse(with(h, k.b)); !alike(s, k.s) || e != api.OK {
			t.Errorf("%s: Parse = %v, %d", k.name, s, e)
		}
	}
	k := wide()
	k.h.Dst.B[15]++
	refused(t, with(k.h, k.b), api.ErrSum)
	k.h.V6 = false // the first four bytes alone then, of addresses that can't be
	thereAndBack(t, with(k.h, mend(k.h, k.b)))
}

// TestMostBytes: at MaxBytes all goes there and back; what is more is read, where the sum is right, and not written.
func TestMostBytes(t *testing.T) {
	for _, c := range []struct {
		h     header.Ip
		bytes int
		want  api.Errno
	}{
		{inFour(api.Tcp), api.MaxBytes, api.OK},
		{inSix(api.Tcp), api.MaxBytes, api.OK},
		{inFour(api.Tcp), api.MaxBytes + 1, api.OK},
		{inSix(api.Tcp), api.MaxBytes + 4, api.OK},
		{inFour(api.Udp), api.MaxBytes, api.OK},
		{inSix(api.Udp), api.MaxBytes, api.OK},
		{inFour(api.Udp), api.MaxBytes + 1, api.ErrForm},
		{inSix(api.Udp), api.MaxBytes + 9, api.ErrForm},
	} {
		b, head := make([]byte, c.bytes), 20
		if c.h.Proto == api.Tcp {
			b[12] = 0x50
		} else {
			b[4], b[5], head = byte(c.bytes>>8), byte(c.bytes), 8
		}
		h := with(c.h, mend(c.h, b))
		if s, e := segment.Parse(h); e != c.want || e == api.OK && len(s.Data) != c.bytes-head {
			t.Errorf("Parse of %d bytes = %d, %d", c.bytes, len(s.Data), e)
		}
		thereAndBack(t, h)
	}
}

func TestParseSharesNoMemory(t *testing.T) {
	for _, k := range knowns() {
		given := bytes.Clone(k.b)
		s, _ := segment.Parse(with(k.h, given))
		same, _ := segment.Parse(with(k.h, given))
		_ = append(s.Opts, "!!!!!!!!!!!!"...)
		_ = append(s.Data, "!!!!!!!!!!!!"...)
		if !alike(s, k.s) {
			t.Errorf("%s: behind what was appended: %v", k.name, s)
		}
		clear(s.Opts)
		if !bytes.Equal(s.Data, k.s.Data) {
			t.Errorf("%s: behind a change of Opts: %v", k.name, s)
		}
		clear(s.Data)
		if !bytes.Equal(given, k.b) || !alike(same, k.s) {
			t.Errorf("%s: behind a change of an answer: %x, %v", k.name, given, same)
		}
		clear(given)
		if !alike(same, k.s) {
			t.Errorf("%s: behind a change of what was given: %v", k.name, same)
		}
	}
}

// TestRoomEndsWithIt: what stands behind a head has no room behind it, and of what was given that has room nothing is written into it.
func TestRoomEndsWithIt(t *testing.T) {
	for _, k := range knowns() {
		b := append(make([]byte, 0, 4096), k.b...)
		s, _ := segment.Parse(with(k.h, b))
		if cap(s.Opts) != len(s.Opts) || cap(s.Data) != len(s.Data) {
			t.Errorf("%s: room of %d for %d, of %d for %d", k.name, cap(s.Opts), len(s.Opts), cap(s.Data), len(s.Data))
		}
		if more := b[len(b):cap(b)]; !bytes.Equal(more, make([]byte, len(more))) {
			t.Errorf("%s: bytes behind those that were given", k.name)
		}
	}
}

// plain is Parse as the document's words say it, byte by byte, with nothing clever in it.
func plain(h header.Ip) (segment.Seg, api.Errno) {
	b := h.Data
	two := func(at int) int { return int(b[at])*256 + int(b[at+1]) }
	four := func(at int) uint32 { return uint32(two(at))*65536 + uint32(two(at+2)) }
	if h.Proto == api.Tcp {
		switch {
		case len(b) < 20:
			return segment.Seg{}, api.ErrShort
		case b[12]/16 < 5, b[12]%16 != 0:
			return segment.Seg{}, api.ErrForm
		case len(b) < int(b[12]/16)*4:
			return segment.Seg{}, api.ErrShort
		case two(16) != sum(h, b):
			return segment.Seg{}, api.ErrSum
		}
		head := int(b[12]/16) * 4
		return segment.Seg{Proto: 6, SrcPort: two(0), DstPort: two(2), Seq: four(4), Ack: four(8), Flags: int(b[13]), Window: two(14), Urg: two(18), Opts: b[20:head], Data: b[head:]}, api.OK
	}
	if h.Proto == api.Udp {
		switch {
		case len(b) < 8, len(b) < two(4):
			return segment.Seg{}, api.ErrShort
		case len(b) > two(4), two(4) < 8:
			return segment.Seg{}, api.ErrForm
		case two(6) == 0 && !h.V6:
			return segment.Seg{Proto: 17, SrcPort: two(0), DstPort: two(2), NoSum: true, Data: b[8:]}, api.OK
		case two(6) != sum(h, b):
			return segment.Seg{}, api.ErrSum
		}
		return segment.Seg{Proto: 17, SrcPort: two(0), DstPort: two(2), Data: b[8:]}, api.OK
	}
	return segment.Seg{}, api.ErrProto
}

// FuzzParse: any bytes within any packet are read as the plain one reads them, and written as they were; so are bytes whose sum is mended.
func FuzzParse(f *testing.F) {
	for _, k := range knowns() {
		f.Add(k.h.V6, k.h.Proto, k.h.Src.B[:], k.h.Dst.B[:], k.b)
	}
	f.Add(false, 1, []byte{}, []byte{}, []byte{})
	f.Fuzz(func(t *testing.T, v6 bool, proto int, src, dst, b []byte) {
		h := header.Ip{V6: v6, Proto: proto, Src: fill(v6, src), Dst: fill(v6, dst)}
		thereAndBack(t, with(h, b))
		for _, proto := range []int{api.Tcp, api.Udp} {
			h.Proto = proto
			if len(b) >= sumAt(proto)+2 {
				thereAndBack(t, with(h, mend(h, bytes.Clone(b))))
			}
		}
	})
}

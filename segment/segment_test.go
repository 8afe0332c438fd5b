package segment_test

import (
	"bytes"
	"math/rand"
	"testing"

	"steelyard/api"
	"steelyard/header"
	"steelyard/segment"
)

// four, six: an address of these bytes, with 0 behind them.
func four(b ...byte) api.Addr { return fill(false, b) }
func six(b ...byte) api.Addr  { return fill(true, b) }

func fill(v6 bool, b []byte) api.Addr {
	a := api.Addr{V6: v6}
	copy(a.B[:], b)
	return a
}

// inFour, inSix: packets that carry what the protocol says.
func inFour(proto int) header.Ip {
	return header.Ip{Src: four(192, 168, 0, 1), Dst: four(192, 168, 0, 199), Proto: proto, Ttl: 64}
}

func inSix(proto int) header.Ip {
	return header.Ip{
		V6: true, Src: six(0xfd, 0, 0, 0, 0, 0, 0, 0, 0, 0, 0, 0, 0, 0, 0, 1), Dst: six(0x20, 1, 2, 3, 4, 5, 6, 7, 8, 9, 10, 11, 12, 13, 14, 15),
		Proto: proto, Ttl: 64,
	}
}

// ten is the packet of the document's example.
func ten(proto int) header.Ip {
	return header.Ip{Src: four(10, 0, 0, 1), Dst: four(10, 0, 0, 2), Proto: proto, Ttl: 64}
}

// known is a segment with the bytes that it has within a packet; the sums were reckoned by another program.
type known struct {
	name string
	h    header.Ip
	s    segment.Seg
	b    []byte
}

func small() known {
	return known{"example", ten(api.Udp), segment.Seg{Proto: api.Udp, SrcPort: 1, DstPort: 2, Data: []byte("a")}, []byte{0, 1, 0, 2, 0, 9, 0x8a, 0xd6, 'a'}}
}

// full is a segment of TCP that has all that one may have.
func full() known {
	s := segment.Seg{
		Proto: api.Tcp, SrcPort: 50000, DstPort: 443, Seq: 0x89abcdef, Ack: 0xfedcba98, Flags: 0x5a, Window: 0xfaf0, Urg: 0x1234,
		Opts: []byte{2, 4, 5, 0xb4, 1, 3, 3, 7}, Data: []byte("hello"),
	}
	return known{"full", inFour(api.Tcp), s, append([]byte{
		0xc3, 0x50, 0x01, 0xbb, 0x89, 0xab, 0xcd, 0xef, 0xfe, 0xdc, 0xba, 0x98, 0x70, 0x5a, 0xfa, 0xf0, 0xda, 0x8e, 0x12, 0x34,
		2, 4, 5, 0xb4, 1, 3, 3, 7,
	}, "hello"...)}
}

// wide is a datagram within a packet of six.
func wide() known {
	s := segment.Seg{Proto: api.Udp, SrcPort: 53, DstPort: 5353, Data: []byte("hello")}
	return known{"wide", inSix(api.Udp), s, append([]byte{0, 0x35, 0x14, 0xe9, 0, 13, 0x51, 0xa2}, "hello"...)}
}

func knowns() []known {
	return []known{
		small(), full(), wide(),
		{"shortest of TCP", ten(api.Tcp), segment.Seg{Proto: api.Tcp, SrcPort: 1, DstPort: 2}, []byte{0, 1, 0, 2, 0, 0, 0, 0, 0, 0, 0, 0, 0x50, 0, 0, 0, 0x9b, 0xdf, 0, 0}},
		{
			"the greatest numbers within six", inSix(api.Tcp),
			segment.Seg{Proto: api.Tcp, SrcPort: 65535, DstPort: 1, Seq: 0xffffffff, Ack: 1, Flags: 255, Window: 65535, Urg: 65535, Data: []byte("hello")},
			append([]byte{255, 255, 0, 1, 255, 255, 255, 255, 0, 0, 0, 1, 0x50, 255, 255, 255, 0x15, 0xcb, 255, 255}, "hello"...),
		},
		{"shortest of UDP within six", inSix(api.Udp), segment.Seg{Proto: api.Udp, SrcPort: 53, DstPort: 5353}, []byte{0, 0x35, 0x14, 0xe9, 0, 8, 0x95, 0x7e}},
		{"no sum", inFour(api.Udp), segment.Seg{Proto: api.Udp, SrcPort: 53, DstPort: 5353, NoSum: true, Data: []byte("hello")}, append([]byte{0, 0x35, 0x14, 0xe9, 0, 13, 0, 0}, "hello"...)},
	}
}

// with: the packet with these data.
func with(h header.Ip, b []byte) header.Ip {
	h.Data = b
	return h
}

// alike: are they one segment? (An empty list of bytes may be nil or not.)
func alike(a, b segment.Seg) bool {
	return a.Proto == b.Proto && a.SrcPort == b.SrcPort && a.DstPort == b.DstPort && a.Seq == b.Seq && a.Ack == b.Ack && a.Flags == b.Flags && a.Window == b.Window && a.Urg == b.Urg && a.NoSum == b.NoSum && bytes.Equal(a.Opts, b.Opts) && bytes.Equal(a.Data, b.Data)
}

// packet: one by chance, of which only its kind, its addresses and its protocol matter here.
func packet(rnd *rand.Rand) header.Ip {
	h := header.Ip{V6: rnd.Intn(2) == 0, Proto: api.Tcp}
	if rnd.Intn(2) == 0 {
		h.Proto = api.Udp
	}
	h.Src.V6, h.Dst.V6 = h.V6, h.V6
	n := 4
	if h.V6 {
		n = 16
	}
	rnd.Read(h.Src.B[:n])
	rnd.Read(h.Dst.B[:n])
	return h
}

// some: a segment by chance that can be within a packet.
func some(rnd *rand.Rand, h header.Ip) segment.Seg {
	s := segment.Seg{Proto: h.Proto, SrcPort: rnd.Intn(65536), DstPort: rnd.Intn(65536), Data: make([]byte, rnd.Intn(30))}
	rnd.Read(s.Data)
	if h.Proto == api.Udp {
		s.NoSum = !h.V6 && rnd.Intn(4) == 0
		return s
	}
	s.Seq, s.Ack, s.Flags, s.Window, s.Urg = rnd.Uint32(), rnd.Uint32(), rnd.Intn(256), rnd.Intn(65536), rnd.Intn(65536)
	s.Opts = make([]byte, 4*rnd.Intn(11))
	rnd.Read(s.Opts)
	return s
}

// sumAt: where a segment's sum stands.
func sumAt(proto int) int {
	if proto == api.Tcp {
		return 16
	}
	return 6
}

// sum: the sum that bytes have to have within a packet, by one remainder of all words together; these are never all 0, as one of them is the protocol.
func sum(h header.Ip, b []byte) int {
	var all []byte
	n := 4
	if h.V6 {
		n = 16
	}
	all = append(append(all, h.Src.B[:n]...), h.Dst.B[:n]...)
	all = append(all, 0, byte(h.Proto), byte(len(b)>>8), byte(len(b)))
	at := len(all) + sumAt(h.Proto)
	all = append(all, b...)
	all[at], all[at+1] = 0, 0
	words := 0
	for i, x := range all {
		words += int(x) << (8 * (1 - i%2))
	}
	n = 65535 - ((words-1)%65535 + 1)
	if n == 0 && h.Proto == api.Udp {
		return 65535
	}
	return n
}

// mend: bytes with the sum that they have to have, so that another fault of them is told.
func mend(h header.Ip, b []byte) []byte {
	n, at := sum(h, b), sumAt(h.Proto)
	b[at], b[at+1] = byte(n>>8), byte(n)
	return b
}

// TestPutAndParse is P5.3, and P6: there and back.
func TestPutAndParse(t *testing.T) {
	rnd := rand.New(rand.NewSource(1))
	for range 5000 {
		h := packet(rnd)
		s := some(rnd, h)
		b, e := segment.Put(h, s)
		if e != api.OK {
			t.Fatalf("Put(%v, %v) = %d", h, s, e)
		}
		if back, e := segment.Parse(with(h, b)); !alike(back, s) || e != api.OK {
			t.Fatalf("Parse(Put(%v, %v)) = %v, %d", h, s, back, e)
		}
		b[rnd.Intn(len(b))] ^= 1 << rnd.Intn(8)
		thereAndBack(t, with(h, b))
		thereAndBack(t, with(h, mend(h, b)))
		thereAndBack(t, with(h, b[:rnd.Intn(len(b)+1)]))
	}
}

// thereAndBack: what Parse takes Put writes as it was, but of more than MaxBytes bytes; what it refuses tells nothing else.
func thereAndBack(t *testing.T, h header.Ip) {
	t.Helper()
	s, e := segment.Parse(h)
	if want, wantE := plain(h); e != wantE || !alike(s, want) {
		t.Fatalf("Parse(%v) = %v, %d; want %v, %d", h, s, e, want, wantE)
	}
	if e != api.OK {
		return
	}
	back, e := segment.Put(h, s)
	if len(h.Data) > api.MaxBytes {
		if e != api.ErrSize || len(back) != 0 {
			t.Fatalf("Put of %d bytes: %d", len(h.Data), e)
		}
		return
	}
	if !bytes.Equal(back, h.Data) || e != api.OK {
		t.Fatalf("Put(Parse(%v)) = %x, %d", h, back, e)
	}
}

// TestTurnedBits is P5.4: one bit turned is refused, but where no sum is told.
func TestTurnedBits(t *testing.T) {
	rnd := rand.New(rand.NewSource(2))
	l := knowns()
	for range 300 {
		h := packet(rnd)
		s := some(rnd, h)
		b, _ := segment.Put(h, s)
		l = append(l, known{"by chance", h, s, b})
	}
	l = append(l, oneBitSum())
	for _, k := range l {
		for i := range 8 * len(k.b) {
			b := bytes.Clone(k.b)
			b[i/8] ^= 0x80 >> (i % 8)
			thereAndBack(t, with(k.h, b))
			s, e := segment.Parse(with(k.h, b))
			switch {
			case k.h.Proto == api.Udp && !k.h.V6 && b[6] == 0 && b[7] == 0:
				if (e == api.OK) != (i/16 != 2) { // only the bits that say how many bytes there are matter then
					t.Fatalf("%s without a sum: %x with the bit %d turned: %d", k.name, k.b, i, e)
				}
			case !k.s.NoSum:
				if e == api.OK || !alike(s, segment.Seg{}) {
					t.Fatalf("%s: %x with the bit %d turned: %v, %d", k.name, k.b, i, s, e)
				}
			}
		}
	}
}

// oneBitSum is a datagram whose sum has one bit: with that turned it says that it has none.
func oneBitSum() known {
	h := ten(api.Udp)
	s := segment.Seg{Proto: api.Udp, SrcPort: 1, Data: []byte{0, 0}}
	b, _ := segment.Put(h, s)
	s.DstPort = int(b[6])<<8 + int(b[7]) - 1 // what is more there is less in the sum
	b, _ = segment.Put(h, s)
	return known{"a sum of one bit", h, s, b}
}

func TestOneBitSum(t *testing.T) {
	k := oneBitSum()
	if k.b[6] != 0 || k.b[7] != 1 {
		t.Fatalf("the sum is %x", k.b[6:8])
	}
	k.b[7], k.s.NoSum = 0, true
	if s, e := segment.Parse(with(k.h, k.b)); !alike(s, k.s) || e != api.OK {
		t.Errorf("Parse = %v, %d", s, e)
	}
}

// TestZeroSums: where the sum would be 0, TCP has 0 and UDP 65535; the other one of the two is refused, but that 0 of UDP is none.
func TestZeroSums(t *testing.T) {
	for _, h := range []header.Ip{inFour(api.Tcp), inSix(api.Tcp), inFour(api.Udp), inSix(api.Udp)} {
		s := segment.Seg{Proto: h.Proto, SrcPort: 7}
		b, _ := segment.Put(h, s)
		at := sumAt(h.Proto)
		s.DstPort = int(b[at])<<8 + int(b[at+1])
		b, e := segment.Put(h, s)
		right := []byte{0, 0}
		if h.Proto == api.Udp {
			right = []byte{255, 255}
		}
		if e != api.OK || !bytes.Equal(b[at:at+2], right) {
			t.Fatalf("Put(%v, %v) = %x, %d", h, s, b, e)
		}
		if back, e := segment.Parse(with(h, b)); !alike(back, s) || e != api.OK {
			t.Errorf("Parse(%x) = %v, %d", b, back, e)
		}
		b[at], b[at+1] = ^b[at], ^b[at+1]
		if h.Proto == api.Udp && !h.V6 {
			s.NoSum = true
			if back, e := segment.Parse(with(h, b)); !alike(back, s) || e != api.OK {
				t.Errorf("Parse(%x) = %v, %d", b, back, e)
			}
			continue
		}
		refused(t, with(h, b), api.ErrSum)
	}
}

package geneve_test

import (
	"bytes"
	"math"
	"math/rand"
	"testing"

	"steelyard/api"
	"steelyard/geneve"
	"steelyard/header"
	"steelyard/segment"
	"steelyard/tuple"
)

// four, six: an address of these bytes, with 0 behind them.
func four(b ...byte) api.Addr { return fill(false, b) }
func six(b ...byte) api.Addr  { return fill(true, b) }

func fill(v6 bool, b []byte) api.Addr {
	a := api.Addr{V6: v6}
	copy(a.B[:], b)
	return a
}

// pathFour, pathSix: paths of the two kinds.
func pathFour() geneve.Path {
	return geneve.Path{Src: four(172, 16, 0, 2), Dst: four(10, 1, 0, 2), Port: 50000, Ttl: 64, Mtu: 1500}
}

func pathSix() geneve.Path {
	return geneve.Path{
		Src: six(0xfd, 0, 0, 0, 0, 0, 0, 0, 0, 0, 0, 0, 0, 0, 0, 1), Dst: six(0x20, 1, 2, 3, 4, 5, 6, 7, 8, 9, 10, 11, 12, 13, 14, 15),
		Port: 65535, Ttl: 1, Mtu: api.MaxBytes,
	}
}

// frame is one with the bytes that it has; the sums were reckoned by another program.
type frame struct {
	name string
	p    geneve.Path
	t    geneve.Tunnel
	b    []byte
}

func frames() []frame {
	return []frame{
		{"shortest", pathFour(), geneve.Tunnel{Proto: 0x0800, Vni: 5}, []byte{
			0x45, 0x00, 0x00, 0x24, 0x00, 0x00, 0x00, 0x00, 0x40, 0x11, 0xc4, 0xb4, 0xac, 0x10, 0x00, 0x02, 0x0a, 0x01, 0x00, 0x02,
			0xc3, 0x50, 0x17, 0xc1, 0x00, 0x10, 0x61, 0xa7, 0x00, 0x00, 0x08, 0x00, 0x00, 0x00, 0x05, 0x00,
		}},
		{"example", pathFour(), example().t, append([]byte{
			0x45, 0x00, 0x00, 0x2d, 0x00, 0x00, 0x00, 0x00, 0x40, 0x11, 0xc4, 0xab, 0xac, 0x10, 0x00, 0x02, 0x0a, 0x01, 0x00, 0x02,
			0xc3, 0x50, 0x17, 0xc1, 0x00, 0x19, 0x66, 0x50,
		}, example().b...)},
		{"six", pathSix(), two().t, append([]byte{
			0x60, 0x00, 0x00, 0x00, 0x00, 0x25, 0x11, 0x01, 0xfd, 0x00, 0x00, 0x00, 0x00, 0x00, 0x00, 0x00, 0x00, 0x00, 0x00, 0x00, 0x00, 0x00, 0x00, 0x01,
			0x20, 0x01, 0x02, 0x03, 0x04, 0x05, 0x06, 0x07, 0x08, 0x09, 0x0a, 0x0b, 0x0c, 0x0d, 0x0e, 0x0f,
			0xff, 0xff, 0x17, 0xc1, 0x00, 0x25, 0x16, 0x0a,
		}, two().b...)},
	}
}

func TestWrap(t *testing.T) {
	for _, f := range frames() {
		if b, e := geneve.Wrap(f.p, f.t); !bytes.Equal(b, f.b) || e != api.OK {
			t.Errorf("%s: Wrap = %x, %d; want %x", f.name, b, e, f.b)
		}
		p := f.p
		p.Mtu = 0
		if q, u, e := geneve.Unwrap(f.b); q != p || !alike(u, f.t) || e != api.OK {
			t.Errorf("%s: Unwrap = %v, %v, %d", f.name, q, u, e)
		}
	}
}

// wrap fails unless Wrap answers that error, and with it no bytes; what it makes has to be taken out as it was, and to be as long as P7.5 says.
func wrap(t *testing.T, name string, p geneve.Path, u geneve.Tunnel, want api.Errno) {
	t.Helper()
	b, e := geneve.Wrap(p, u)
	if e != want || e != api.OK && len(b) != 0 {
		t.Fatalf("%s: Wrap = %d bytes, %d; want %d", name, len(b), e, want)
	}
	if e != api.OK {
		return
	}
	size := geneve.Least + len(u.Inner)
	for _, o := range u.Opts {
		size += 4 + len(o.Data)
	}
	if p.Src.V6 {
		size += 20
	}
	if len(b) != size || len(b) > p.Mtu {
		t.Fatalf("%s: %d bytes, want %d, of an Mtu %d", name, len(b), size, p.Mtu)
	}
	p.Mtu = 0
	if q, back, e := geneve.Unwrap(b); q != p || !alike(back, u) || e != api.OK {
		t.Fatalf("%s: Unwrap(Wrap(%v, %v)) = %v, %v, %d", name, p, u, q, back, e)
	}
}

// TestWrapAndUnwrap is P7.5, P6, and P3's frame that has the packet as it was.
func TestWrapAndUnwrap(t *testing.T) {
	rnd := rand.New(rand.NewSource(3))
	for range 3000 {
		p := geneve.Path{Src: four(0, 0, 0, 0), Port: rnd.Intn(65536), Ttl: rnd.Intn(256), Mtu: api.MaxBytes}
		n := 4
		if rnd.Intn(2) == 0 {
			n, p.Src.V6, p.Dst.V6 = 16, true, true
		}
		rnd.Read(p.Src.B[:n])
		rnd.Read(p.Dst.B[:n])
		wrap(t, "by chance", p, some(rnd), api.OK)
	}
}

// TestPacketsWithin: a packet goes in and comes out as it was, with its kind, also one that is the longest.
func TestPacketsWithin(t *testing.T) {
	for _, size := range []int{0, 1, 1000, api.MaxBytes - 20 - 20 - 36} {
		u := api.Tuple{Src: four(10, 0, 0, 1), Dst: four(10, 0, 0, 2), Proto: api.Tcp, SrcPort: 1, DstPort: 2}
		inner, e := tuple.Make(u, api.Syn, bytes.Repeat([]byte{7}, size))
		if e != api.OK || geneve.Kind(inner) != 0x0800 {
			t.Fatalf("a packet of %d: %d, %x", size, e, geneve.Kind(inner))
		}
		p := pathFour()
		p.Mtu = api.MaxBytes
		wrap(t, "a packet", p, geneve.Tunnel{Proto: geneve.Kind(inner), Inner: inner}, api.OK)
		b, _ := geneve.Wrap(p, geneve.Tunnel{Proto: geneve.Kind(inner), Inner: inner})
		wrap(t, "a frame within", pathSix(), geneve.Tunnel{Proto: geneve.Kind(b), Inner: b[:min(len(b), api.MaxBytes-56)]}, api.OK)
		_, v, _ := geneve.Unwrap(b)
		if seen, e := tuple.Of(v.Inner); seen.T != u || seen.Flags != api.Syn || e != api.OK {
			t.Errorf("what came out is %v, %d", seen, e)
		}
	}
}

func TestWrapAtTheMtu(t *testing.T) {
	for _, f := range frames() {
		for _, n := range []int{len(f.b), len(f.b) + 1, 1500, api.MaxBytes - 1, api.MaxBytes} {
			f.p.Mtu = n
			wrap(t, f.name, f.p, f.t, api.OK)
		}
		for _, n := range []int{1, 2, 20, 35, len(f.b) - 1} {
			f.p.Mtu = n
			wrap(t, f.name, f.p, f.t, api.ErrMtu)
		}
		for _, n := range []int{math.MinInt, -1500, -1, 0, api.MaxBytes + 1, 1 << 32, math.MaxInt} {
			f.p.Mtu = n
			wrap(t, f.name, f.p, f.t, api.ErrArg)
		}
	}
}

func TestWrapAtMaxBytes(t *testing.T) {
	for _, f := range frames() {
		f.p.Mtu = api.MaxBytes
		head := len(f.b) - len(f.t.Inner)
		f.t.Inner = bytes.Repeat([]byte{0x45}, api.MaxBytes-head)
		most := len(f.t.Inner)
		wrap(t, f.name, f.p, f.t, api.OK)
		f.p.Mtu = api.MaxBytes - 1
		wrap(t, f.name, f.p, f.t, api.ErrMtu)
		for _, more := range []int{1, 8, 28, 29, 36, 40, 48, 49, 100, api.MaxBytes} {
			f.t.Inner = make([]byte, most+more)
			f.p.Mtu = api.MaxBytes
			wrap(t, f.name, f.p, f.t, api.ErrSize)
			f.p.Mtu = 1 // what is too long for all packets goes ahead of what is too long for this one
			wrap(t, f.name, f.p, f.t, api.ErrSize)
		}
	}
}

// pathFaults: what makes a path one that can't be.
func pathFaults() []func(p *geneve.Path) {
	l := []func(p *geneve.Path){
		func(p *geneve.Path) { p.Src.V6 = !p.Src.V6 },
		func(p *geneve.Path) { p.Dst.V6 = !p.Dst.V6 },
		func(p *geneve.Path) { p.Src = api.Addr{B: [16]byte{4: 1}} },
		func(p *geneve.Path) { p.Dst = api.Addr{B: [16]byte{15: 1}} },
	}
	for _, n := range beyond(65535) {
		l = append(l, func(p *geneve.Path) { p.Port = n })
	}
	for _, n := range beyond(255) {
		l = append(l, func(p *geneve.Path) { p.Ttl = n })
	}
	return l
}

func TestWrapOnPathsThatCanNotBe(t *testing.T) {
	for _, f := range frames() {
		for _, spoil := range pathFaults() {
			p := f.p
			spoil(&p)
			wrap(t, f.name, p, f.t, api.ErrArg)
			p.Mtu = 1
			wrap(t, f.name, p, f.t, api.ErrArg)
		}
		for _, n := range []int{0, 1, 6081, 65535} {
			p := f.p
			p.Port = n
			wrap(t, f.name, p, f.t, api.OK)
		}
		for _, n := range []int{0, 1, 254, 255} {
			p := f.p
			p.Ttl = n
			wrap(t, f.name, p, f.t, api.OK)
		}
	}
}

// TestWrapTellsTheFirstError: Put's goes ahead of the Mtu's, that of the segment's, that of the packet's.
func TestWrapTellsTheFirstError(t *testing.T) {
	p, u := pathFour(), geneve.Tunnel{Inner: make([]byte, api.MaxBytes-7)}
	p.Mtu = 0
	wrap(t, "too long for a tunnel, and no Mtu", p, u, api.ErrSize)
	u.Vni = -1
	wrap(t, "a tunnel that can't be", p, u, api.ErrArg)
	u = geneve.Tunnel{Inner: make([]byte, api.MaxBytes-8)} // of a tunnel the most, of a datagram too much
	wrap(t, "no Mtu, and too long for a datagram", p, u, api.ErrArg)
	p.Mtu = 1
	wrap(t, "too long for a datagram", p, u, api.ErrSize)
	p.Ttl = -1
	wrap(t, "too long for a datagram, and a packet that can't be", p, u, api.ErrSize)
	p.Port = -1
	wrap(t, "a port that can't be", p, u, api.ErrArg)
	p.Port = 1
	u.Inner = u.Inner[:api.MaxBytes-16] // of a datagram the most, of a packet too much
	wrap(t, "a packet that can't be, and too long for it", p, u, api.ErrArg)
	p.Ttl = 1
	wrap(t, "too long for a packet", p, u, api.ErrSize)
}

// unwrapped fails unless Unwrap answers that error, and nothing else.
func unwrapped(t *testing.T, name string, b []byte, want api.Errno) {
	t.Helper()
	if p, u, e := geneve.Unwrap(b); e != want || p != (geneve.Path{}) || !alike(u, geneve.Tunnel{}) {
		t.Errorf("%s: Unwrap(%x) = %v, %v, %d; want %d", name, b, p, u, e, want)
	}
}

// carry: a packet that carries a segment.
func carry(t *testing.T, h header.Ip, s segment.Seg) []byte {
	t.Helper()
	data, e := segment.Put(h, s)
	if e != api.OK {
		t.Fatalf("a segment: %d", e)
	}
	h.Data = data
	b, e := header.Put(h)
	if e != api.OK {
		t.Fatalf("a packet: %d", e)
	}
	return b
}

// outer: the packet of a frame, without what it carries.
func outer(p geneve.Path, proto int) header.Ip {
	return header.Ip{V6: p.Src.V6, Src: p.Src, Dst: p.Dst, Ttl: p.Ttl, Proto: proto}
}

func TestUnwrapOfWhatIsNoFrame(t *testing.T) {
	for _, f := range frames() {
		data, _ := geneve.Put(f.t)
		for _, port := range []int{0, 6080, 6082, 65535} {
			unwrapped(t, "another port", carry(t, outer(f.p, api.Udp), segment.Seg{Proto: api.Udp, SrcPort: geneve.Port, DstPort: port, Data: data}), api.ErrProto)
		}
		unwrapped(t, "of TCP", carry(t, outer(f.p, api.Tcp), segment.Seg{Proto: api.Tcp, SrcPort: 1, DstPort: geneve.Port, Data: data}), api.ErrProto)
		for _, n := range []int{0, 1, 58} {
			h := outer(f.p, n)
			h.Data = f.b[header.Size(h):]
			b, _ := header.Put(h)
			unwrapped(t, "of another protocol", b, api.ErrProto)
		}
		for n := range f.b {
			unwrapped(t, "cut", f.b[:n], api.ErrShort)
		}
		unwrapped(t, "more", append(bytes.Clone(f.b), 0), api.ErrForm)
	}
	unwrapped(t, "another version", []byte{0x50}, api.ErrVersion)
}

// TestUnwrapTellsTheFirstError spoils frames: what is asked of the packet goes ahead of the segment, that of its port, that of the tunnel.
func TestUnwrapTellsTheFirstError(t *testing.T) {
	for _, f := range frames() {
		h := outer(f.p, api.Udp)
		at := header.Size(h)
		toPort := func(port int, data []byte) []byte {
			return carry(t, h, segment.Seg{Proto: api.Udp, SrcPort: 1, DstPort: port, Data: data})
		}
		unwrapped(t, "no bytes within", toPort(geneve.Port, nil), api.ErrShort)
		unwrapped(t, "seven bytes within", toPort(geneve.Port, make([]byte, 7)), api.ErrShort)
		unwrapped(t, "another version within", toPort(geneve.Port, []byte{64, 0, 0, 0, 0, 0, 0, 0}), api.ErrVersion)
		unwrapped(t, "another form within", toPort(geneve.Port, []byte{0, 1, 0, 0, 0, 0, 0, 0}), api.ErrForm)
		b := toPort(6080, []byte{64})
		unwrapped(t, "another port, and another version within", b, api.ErrProto)
		b[at+6]++
		unwrapped(t, "another sum", b, api.ErrSum)
		b[at+5]++
		unwrapped(t, "fewer bytes than it says", b, api.ErrShort)
		unwrapped(t, "more bytes than the packet has", append(b, 0), api.ErrForm)
		b[0] = 0x10
		unwrapped(t, "another version", b, api.ErrVersion)
	}
	f := frames()[0]
	b := bytes.Clone(f.b)
	b[10]++
	b[26]++
	b[28] = 64
	unwrapped(t, "another sum of the head", b, api.ErrSum)
	h := outer(f.p, api.Tcp)
	b = carry(t, h, segment.Seg{Proto: api.Tcp, DstPort: geneve.Port})
	b[20+16]++
	unwrapped(t, "of TCP, with another sum", b, api.ErrSum)
	b = bytes.Clone(f.b)
	b[6], b[10], b[11] = 0x20, 0xa4, 0xb4 // more follows; the sum is so much less
	unwrapped(t, "a fragment", b, api.ErrFrag)
}

// TestUnwrapOfOtherFrames: what Wrap would not have written so is a frame, too.
func TestUnwrapOfOtherFrames(t *testing.T) {
	for _, f := range frames() {
		h := outer(f.p, api.Udp)
		h.Tos = 7
		if h.V6 {
			h.Label = 9
		} else {
			h.Id, h.Df, h.Opts = 8, true, []byte{1, 1, 1, 0}
		}
		data, _ := geneve.Put(f.t)
		b := carry(t, h, segment.Seg{Proto: api.Udp, SrcPort: f.p.Port, DstPort: geneve.Port, NoSum: !h.V6, Data: data})
		f.p.Mtu = 0
		if p, u, e := geneve.Unwrap(b); p != f.p || !alike(u, f.t) || e != api.OK {
			t.Errorf("%s: Unwrap = %v, %v, %d", f.name, p, u, e)
		}
	}
}

func TestFramesShareNoMemory(t *testing.T) {
	for _, f := range frames() {
		given := copied(f.t)
		b, _ := geneve.Wrap(f.p, given)
		again, _ := geneve.Wrap(f.p, given)
		_, u, _ := geneve.Unwrap(again)
		clear(b)
		if !bytes.Equal(again, f.b) || !alike(given, f.t) || !alike(u, f.t) {
			t.Errorf("%s: behind a change of a frame: %x, %v, %v", f.name, again, given, u)
		}
		clear(given.Inner)
		for _, o := range given.Opts {
			clear(o.Data)
		}
		if !bytes.Equal(again, f.b) || !alike(u, f.t) {
			t.Errorf("%s: behind a change of a tunnel: %x, %v", f.name, again, u)
		}
		clear(u.Inner)
		for _, o := range u.Opts {
			clear(o.Data)
		}
		if !bytes.Equal(again, f.b) {
			t.Errorf("%s: behind a change of what came out: %x", f.name, again)
		}
		_, u, _ = geneve.Unwrap(again)
		clear(again)
		if !alike(u, f.t) {
			t.Errorf("%s: behind a change of what it came out of: %v", f.name, u)
		}
	}
}

// plainUnwrap is Unwrap by the layers below it.
func plainUnwrap(b []byte) (geneve.Path, geneve.Tunnel, api.Errno) {
	h, e := header.Parse(b)
	if e != api.OK {
		return geneve.Path{}, geneve.Tunnel{}, e
	}
	s, e := segment.Parse(h)
	if e != api.OK {
		return geneve.Path{}, geneve.Tunnel{}, e
	}
	if h.Proto != 17 || s.DstPort != 6081 {
		return geneve.Path{}, geneve.Tunnel{}, api.ErrProto
	}
	u, e := plain(s.Data)
	if e != api.OK {
		return geneve.Path{}, geneve.Tunnel{}, e
	}
	return geneve.Path{Src: h.Src, Dst: h.Dst, Port: s.SrcPort, Ttl: h.Ttl}, u, api.OK
}

// FuzzUnwrap: any bytes, and any that a datagram to Port carries, are taken out as the layers below say.
func FuzzUnwrap(f *testing.F) {
	for _, c := range frames() {
		f.Add(c.b)
	}
	for _, k := range knowns() {
		f.Add(k.b)
	}
	f.Fuzz(func(t *testing.T, b []byte) {
		h := outer(pathFour(), api.Udp)
		data, _ := segment.Put(h, segment.Seg{Proto: api.Udp, DstPort: geneve.Port, Data: b})
		h.Data = data
		in, _ := header.Put(h)
		for _, b := range [][]byte{b, in} {
			p, u, e := geneve.Unwrap(b)
			if q, v, f := plainUnwrap(b); p != q || !alike(u, v) || e != f {
				t.Fatalf("Unwrap(%x) = %v, %v, %d; want %v, %v, %d", b, p, u, e, q, v, f)
			}
			if e == api.OK && len(b) <= api.MaxBytes {
				p.Mtu = api.MaxBytes
				wrap(t, "again", p, u, api.OK)
			}
		}
	})
}

// FuzzWrap: all arguments end with a frame or an error, and none panics.
func FuzzWrap(f *testing.F) {
	f.Add(false, false, []byte{10}, []byte{11}, 1, 64, 1500, true, 0x0800, 5, 1, 128, []byte("data"), []byte("x"))
	f.Add(true, true, make([]byte, 16), []byte{9}, -1, 256, 0, false, -1, 1<<24, 65536, 256, []byte("d"), []byte(nil))
	f.Fuzz(func(t *testing.T, srcV6, dstV6 bool, src, dst []byte, port, ttl, mtu int, oam bool, proto, vni, class, kind int, data, inner []byte) {
		p := geneve.Path{Src: fill(srcV6, src), Dst: fill(dstV6, dst), Port: port, Ttl: ttl, Mtu: mtu}
		u := geneve.Tunnel{Oam: oam, Proto: proto, Vni: vni, Opts: []geneve.Opt{{Class: class, Type: kind, Data: data}, {Data: data}}, Inner: inner}
		_, e := geneve.Wrap(p, u)
		wrap(t, "any", p, u, e)
		_, e = geneve.Put(u)
		put(t, "any", u, e)
	})
}

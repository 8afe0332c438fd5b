package tuple_test

import (
	"bytes"
	"math"
	"math/rand"
	"testing"

	"steelyard/addr"
	"steelyard/api"
	"steelyard/header"
	"steelyard/segment"
	"steelyard/tuple"
)

// four, six: an address of these bytes, with 0 behind them.
func four(b ...byte) api.Addr { return fill(false, b) }
func six(b ...byte) api.Addr  { return fill(true, b) }

func fill(v6 bool, b []byte) api.Addr {
	a := api.Addr{V6: v6}
	copy(a.B[:], b)
	return a
}

// small is the tuple of the document's example.
func small() api.Tuple {
	return api.Tuple{Src: four(10, 0, 0, 1), Dst: four(10, 0, 0, 2), Proto: api.Udp, SrcPort: 1, DstPort: 2}
}

// wide is a tuple of TCP within six.
func wide() api.Tuple {
	return api.Tuple{
		Src: six(0xfd, 0, 0, 0, 0, 0, 0, 0, 0, 0, 0, 0, 0, 0, 0, 1), Dst: six(0x20, 1, 2, 3, 4, 5, 6, 7, 8, 9, 10, 11, 12, 13, 14, 15),
		Proto: api.Tcp, SrcPort: 65535, DstPort: 443,
	}
}

// each: a tuple of each protocol within each kind of packet.
func each() []api.Tuple {
	a, b := small(), wide()
	c, d := a, b
	c.Proto, d.Proto = api.Tcp, api.Udp
	return []api.Tuple{a, b, c, d}
}

// some: a tuple by chance that can be, and flags that its segment can have.
func some(rnd *rand.Rand) (api.Tuple, int) {
	t := each()[rnd.Intn(4)]
	n := 4
	if t.Src.V6 {
		n = 16
	}
	rnd.Read(t.Src.B[:n])
	rnd.Read(t.Dst.B[:n])
	t.SrcPort, t.DstPort = rnd.Intn(65536), rnd.Intn(65536)
	if t.Proto == api.Udp {
		return t, 0
	}
	return t, rnd.Intn(256)
}

// smallBytes is a packet of the tuple small: that of which the document's example begins, with one byte within.
func smallBytes() []byte {
	return []byte{
		0x45, 0, 0, 0x1d, 0, 0, 0, 0, 0x40, 0x11, 0x66, 0xce, 10, 0, 0, 1, 10, 0, 0, 2,
		0, 1, 0, 2, 0, 9, 0x8a, 0xd6, 'a',
	}
}

// known is a packet of TCP within four that has all that one may have; its sums were reckoned by another program.
func known() (api.Tuple, []byte) {
	t := api.Tuple{Src: four(192, 168, 0, 1), Dst: four(192, 168, 0, 199), Proto: api.Tcp, SrcPort: 50000, DstPort: 443}
	return t, append([]byte{
		0x47, 0xb8, 0, 61, 0x12, 0x34, 0x40, 0, 255, 6, 0xd9, 0xad, 192, 168, 0, 1, 192, 168, 0, 199,
		7, 7, 4, 0, 0, 0, 0, 1,
		0xc3, 0x50, 0x01, 0xbb, 0x89, 0xab, 0xcd, 0xef, 0xfe, 0xdc, 0xba, 0x98, 0x70, 0x5a, 0xfa, 0xf0, 0xda, 0x8e, 0x12, 0x34,
		2, 4, 5, 0xb4, 1, 3, 3, 7,
	}, "hello"...)
}

func TestOf(t *testing.T) {
	if s, e := tuple.Of(smallBytes()); s != (tuple.Seen{T: small(), Size: 29}) || e != api.OK {
		t.Errorf("Of the example = %v, %d", s, e)
	}
	x, b := known()
	if s, e := tuple.Of(b); s != (tuple.Seen{T: x, Flags: 0x5a, Size: 61}) || e != api.OK {
		t.Errorf("Of = %v, %d", s, e)
	}
	b = smallBytes()
	b[26], b[27] = 0, 0 // no sum
	if s, e := tuple.Of(b); s != (tuple.Seen{T: small(), Size: 29}) || e != api.OK {
		t.Errorf("Of what has no sum = %v, %d", s, e)
	}
}

// carried: a packet as bytes.
func carried(t *testing.T, h header.Ip) []byte {
	t.Helper()
	b, e := header.Put(h)
	if e != api.OK {
		t.Fatalf("Put(%v) = %d", h, e)
	}
	return b
}

// refused: is b refused with that error, and nothing else told?
func refused(t *testing.T, name string, b []byte, want api.Errno) {
	t.Helper()
	if s, e := tuple.Of(b); e != want || s != (tuple.Seen{}) {
		t.Errorf("%s: Of(%x) = %v, %d; want %d", name, b, s, e, want)
	}
}

func TestOfWhatIsNoPacket(t *testing.T) {
	refused(t, "none", nil, api.ErrShort)
	refused(t, "none", []byte{}, api.ErrShort)
	for _, c := range []struct {
		name string
		at   int
		is   byte
		want api.Errno
	}{
		{"version", 0, 0x55, api.ErrVersion},
		{"head", 0, 0x44, api.ErrForm},
		{"more than it says", 3, 0x1c, api.ErrForm},
		{"fewer than it says", 3, 0x1e, api.ErrShort},
		{"head's sum", 11, 0xcf, api.ErrSum},
		{"datagram's sum", 27, 0xd7, api.ErrSum},
		{"datagram's size", 25, 10, api.ErrShort},
		{"datagram's size", 25, 8, api.ErrForm},
		{"data", 28, 'b', api.ErrSum},
	} {
		b := smallBytes()
		b[c.at] = c.is
		refused(t, c.name, b, c.want)
	}
}

func TestOfWhatIsNoSegment(t *testing.T) {
	h := header.Ip{Src: four(10, 0, 0, 1), Dst: four(10, 0, 0, 2), Ttl: 64}
	for _, c := range []struct {
		name  string
		proto int
		data  []byte
		want  api.Errno
	}{
		{"ICMP", 1, []byte{8, 0, 0xf7, 0xff, 0, 0, 0, 0}, api.ErrProto},
		{"none of UDP", api.Udp, nil, api.ErrShort},
		{"7 bytes of UDP", api.Udp, make([]byte, 7), api.ErrShort},
		{"UDP that says nothing", api.Udp, make([]byte, 8), api.ErrForm},
		{"none of TCP", api.Tcp, nil, api.ErrShort},
		{"19 bytes of TCP", api.Tcp, make([]byte, 19), api.ErrShort},
		{"TCP without a head", api.Tcp, make([]byte, 20), api.ErrForm},
		{"TCP of a head that is too long", api.Tcp, append(append(make([]byte, 12), 0x60), make([]byte, 7)...), api.ErrShort},
		{"TCP without a sum", api.Tcp, append(append(make([]byte, 12), 0x50), make([]byte, 7)...), api.ErrSum},
	} {
		h.Proto, h.Data = c.proto, c.data
		b := carried(t, h)
		refused(t, c.name, b, c.want)
		b[11]++ // the packet's own error goes ahead of the segment's
		refused(t, c.name, b, api.ErrSum)
		refused(t, c.name, b[:len(b)-1], api.ErrShort)
	}
}

func TestOfAFragment(t *testing.T) {
	h := header.Ip{Src: four(10, 0, 0, 1), Dst: four(10, 0, 0, 2), Ttl: 64, Proto: 1} // another protocol is asked behind it
	for _, bits := range []byte{0x20, 1} {
		b := carried(t, h)
		b[6] |= bits
		sum := uint16(b[10])<<8 + uint16(b[11]) - uint16(bits)<<8
		b[10], b[11] = byte(sum>>8), byte(sum)
		refused(t, "fragment", b, api.ErrFrag)
	}
}

// TestOfAsItsParts holds Of against what the two layers below answer, of any bytes that are near a packet.
func TestOfAsItsParts(t *testing.T) {
	rnd := rand.New(rand.NewSource(1))
	for range 5000 {
		x, flags := some(rnd)
		data := make([]byte, rnd.Intn(20))
		b, _ := tuple.Make(x, flags, data)
		switch rnd.Intn(3) {
		case 0:
			b[rnd.Intn(len(b))] ^= 1 << rnd.Intn(8)
		case 1:
			b = b[:rnd.Intn(len(b))]
		}
		asItsParts(t, b)
	}
}

func asItsParts(t *testing.T, b []byte) {
	t.Helper()
	h, e := header.Parse(b)
	var s segment.Seg
	if e == api.OK {
		s, e = segment.Parse(h)
	}
	var want tuple.Seen
	if e == api.OK {
		want = tuple.Seen{T: api.Tuple{Src: h.Src, Dst: h.Dst, Proto: h.Proto, SrcPort: s.SrcPort, DstPort: s.DstPort}, Flags: s.Flags, Size: len(b)}
	}
	got, gotE := tuple.Of(b)
	if got != want || gotE != e {
		t.Fatalf("Of(%x) = %v, %d; want %v, %d", b, got, gotE, want, e)
	}
	if gotE == api.OK && !addr.RightTuple(got.T) {
		t.Fatalf("Of(%x) = %v, which can't be", b, got)
	}
}

func TestMake(t *testing.T) {
	if b, e := tuple.Make(small(), 0, []byte("a")); !bytes.Equal(b, smallBytes()) || e != api.OK {
		t.Errorf("Make of the example = %x, %d", b, e)
	}
	for _, x := range each() {
		for _, flags := range []int{0, api.Syn, api.Fin | api.Ack, 255} {
			if x.Proto == api.Udp {
				flags = 0
			}
			made(t, x, flags, nil)
			made(t, x, flags, []byte("hello"))
		}
	}
}

// made fails unless Make answers just the packet that the document says.
func made(t *testing.T, x api.Tuple, flags int, data []byte) {
	t.Helper()
	b, e := tuple.Make(x, flags, data)
	if e != api.OK {
		t.Errorf("Make(%v, %d, %q) = %d", x, flags, data, e)
		return
	}
	h, e := header.Parse(b)
	inside := h.Data
	h.Data = nil
	if e != api.OK || len(h.Opts) != 0 || h.V6 != x.Src.V6 || h.Src != x.Src || h.Dst != x.Dst || h.Proto != x.Proto || h.Ttl != 64 || h.Tos != 0 || h.Id != 0 || h.Df || h.Label != 0 {
		t.Errorf("Make(%v, %d, %q): a packet %v, %d", x, flags, data, h, e)
	}
	h.Data = inside
	s, e := segment.Parse(h)
	if e != api.OK || s.Proto != x.Proto || s.SrcPort != x.SrcPort || s.DstPort != x.DstPort || s.Flags != flags || !bytes.Equal(s.Data, data) || len(s.Opts) != 0 || s.Seq != 0 || s.Ack != 0 || s.Window != 0 || s.Urg != 0 || s.NoSum {
		t.Errorf("Make(%v, %d, %q): a segment %v, %d", x, flags, data, s, e)
	}
}

// notMade fails unless Make answers that error, and no bytes.
func notMade(t *testing.T, name string, x api.Tuple, flags int, data []byte, want api.Errno) {
	t.Helper()
	if b, e := tuple.Make(x, flags, data); len(b) != 0 || e != want {
		t.Errorf("%s: Make(%v, %d, %d bytes) = %d bytes, %d; want %d", name, x, flags, len(data), len(b), e, want)
	}
}

func TestMakeOfWhatCanNotBe(t *testing.T) {
	long := make([]byte, api.MaxBytes+1)
	for _, good := range each() {
		for _, f := range []struct {
			name  string
			spoil func(x *api.Tuple)
		}{
			{"Src of the other kind", func(x *api.Tuple) { x.Src = api.Addr{V6: !x.Src.V6} }},
			{"Dst of the other kind", func(x *api.Tuple) { x.Dst = api.Addr{V6: !x.Dst.V6} }},
			{"Src that can't be", func(x *api.Tuple) { x.Src = four(1, 2, 3, 4, 5) }},
			{"Dst that can't be", func(x *api.Tuple) { x.Dst = four(1, 2, 3, 4, 0, 0, 0, 0, 0, 0, 0, 0, 0, 0, 0, 5) }},
			{"Proto 0", func(x *api.Tuple) { x.Proto = 0 }},
			{"Proto 1", func(x *api.Tuple) { x.Proto = 1 }},
			{"Proto below 0", func(x *api.Tuple) { x.Proto = -x.Proto }},
			{"Proto 256 above", func(x *api.Tuple) { x.Proto += 256 }},
			{"SrcPort below 0", func(x *api.Tuple) { x.SrcPort = -1 }},
			{"SrcPort above", func(x *api.Tuple) { x.SrcPort = 65536 }},
			{"SrcPort of the least", func(x *api.Tuple) { x.SrcPort = math.MinInt }},
			{"DstPort below 0", func(x *api.Tuple) { x.DstPort = -1 }},
			{"DstPort above", func(x *api.Tuple) { x.DstPort = 65536 }},
			{"DstPort of the greatest", func(x *api.Tuple) { x.DstPort = math.MaxInt }},
		} {
			x := good
			f.spoil(&x)
			notMade(t, f.name, x, 0, nil, api.ErrArg)
			notMade(t, f.name, x, 0, long, api.ErrArg) // ahead of what is too long
			notMade(t, f.name, x, -1, nil, api.ErrArg)
		}
		wrong := []int{math.MinInt, math.MinInt + 1, -256, -1, 256, 257, 512, math.MaxInt}
		if good.Proto == api.Udp {
			wrong = append(wrong, 1, api.Syn, 128, 255)
		}
		for _, flags := range wrong {
			notMade(t, "flags", good, flags, nil, api.ErrArg)
			notMade(t, "flags, and too long", good, flags, long, api.ErrArg)
		}
	}
	notMade(t, "nothing", api.Tuple{}, 0, nil, api.ErrArg)
}

func TestMakeAtMaxBytes(t *testing.T) {
	for _, x := range each() {
		head := 20 + 8
		if x.Src.V6 {
			head += 20
		}
		if x.Proto == api.Tcp {
			head += 12
		}
		most := api.MaxBytes - head
		for _, n := range []int{most - 1, most} {
			made(t, x, 0, bytes.Repeat([]byte{0xa5}, n))
			if s, e := seen(x, 0, make([]byte, n)); s != (tuple.Seen{T: x, Size: head + n}) || e != api.OK {
				t.Errorf("Of(Make(%v, %d bytes)) = %v, %d", x, n, s, e)
			}
		}
		for _, n := range []int{most + 1, most + 2, most + 20, most + 40, api.MaxBytes - 8, api.MaxBytes, api.MaxBytes + 1, 65536 + 60} {
			notMade(t, "too long", x, 0, make([]byte, n), api.ErrSize)
		}
	}
}

func TestMakeSharesNoMemory(t *testing.T) {
	given := []byte("hello")
	b, _ := tuple.Make(small(), 0, given)
	same, _ := tuple.Make(small(), 0, given)
	want := bytes.Clone(b)
	clear(b)
	if string(given) != "hello" || !bytes.Equal(same, want) {
		t.Errorf("behind a change of an answer: %q, %x", given, same)
	}
	clear(given)
	if !bytes.Equal(same, want) {
		t.Errorf("behind a change of what was given: %x", same)
	}
	b = smallBytes()
	tuple.Of(b)
	if !bytes.Equal(b, smallBytes()) {
		t.Errorf("what was given is %x", b)
	}
}

// seen: what is seen of what is made.
func seen(x api.Tuple, flags int, data []byte) (tuple.Seen, api.Errno) {
	b, e := tuple.Make(x, flags, data)
	if e != api.OK {
		return tuple.Seen{}, e
	}
	return tuple.Of(b)
}

// TestOfAndMake is P6.4, and P6: there and back.
func TestOfAndMake(t *testing.T) {
	rnd := rand.New(rand.NewSource(2))
	for range 3000 {
		x, flags := some(rnd)
		data := make([]byte, rnd.Intn(40))
		rnd.Read(data)
		b, e := tuple.Make(x, flags, data)
		if e != api.OK {
			t.Fatalf("Make(%v, %d, %x) = %d", x, flags, data, e)
		}
		if s, e := tuple.Of(b); s != (tuple.Seen{T: x, Flags: flags, Size: len(b)}) || e != api.OK {
			t.Fatalf("Of(Make(%v, %d, %x)) = %v, %d", x, flags, data, s, e)
		}
	}
}

// FuzzOf: of any bytes Of is what the two layers below say.
func FuzzOf(f *testing.F) {
	_, b := known()
	f.Add(b)
	f.Add(smallBytes())
	for _, x := range each() {
		b, _ := tuple.Make(x, 0, []byte("hello"))
		f.Add(b)
	}
	f.Add([]byte{})
	f.Fuzz(func(t *testing.T, b []byte) { asItsParts(t, b) })
}

package geneve_test

import (
	"bytes"
	"math/rand"
	"testing"

	"steelyard/api"
	"steelyard/geneve"
)

// known is a tunnel with the bytes that it has.
type known struct {
	name string
	t    geneve.Tunnel
	b    []byte
}

// example is the document's.
func example() known {
	return known{
		"example",
		geneve.Tunnel{Proto: 0x0800, Vni: 5, Opts: []geneve.Opt{{Class: 0x0102, Type: 0x80, Data: []byte{0, 0, 0, 1}}}, Inner: []byte("x")},
		[]byte{0x02, 0x40, 0x08, 0x00, 0x00, 0x00, 0x05, 0x00, 0x01, 0x02, 0x80, 0x01, 0x00, 0x00, 0x00, 0x01, 0x78},
	}
}

// two is a tunnel of two options, the first one without data.
func two() known {
	return known{
		"two options",
		geneve.Tunnel{Oam: true, Proto: 0x86dd, Vni: 0xabcdef, Opts: []geneve.Opt{{Class: 65535, Type: 127}, {Class: 1, Type: 2, Data: []byte("abcdefgh")}}, Inner: []byte("hello")},
		append([]byte{0x04, 0x80, 0x86, 0xdd, 0xab, 0xcd, 0xef, 0, 255, 255, 127, 0, 0, 1, 2, 2}, "abcdefghhello"...),
	}
}

// full has as many options as there may be.
func full() known {
	k := known{"63 options", geneve.Tunnel{Oam: true, Proto: 65535, Vni: 1<<24 - 1, Inner: []byte{4}}, []byte{63, 0xc0, 255, 255, 255, 255, 255, 0}}
	for i := range 63 {
		k.t.Opts = append(k.t.Opts, geneve.Opt{Class: 256 + i, Type: 3 * i})
		k.b = append(k.b, 1, byte(i), byte(3*i), 0)
	}
	k.b = append(k.b, 4)
	return k
}

// long has the longest data that an option may have.
func long() known {
	data := bytes.Repeat([]byte{0xa5}, 124)
	k := known{"longest data", geneve.Tunnel{Opts: []geneve.Opt{{Type: 255, Data: data}, {Data: data[:120]}}}, []byte{63, 0x40, 0, 0, 0, 0, 0, 0, 0, 0, 255, 31}}
	k.b = append(k.b, data...)
	k.b = append(k.b, 0, 0, 0, 30)
	k.b = append(k.b, data[:120]...)
	return k
}

func knowns() []known {
	return []known{
		example(), two(), full(), long(),
		{"nothing", geneve.Tunnel{}, make([]byte, 8)},
		{"Oam alone", geneve.Tunnel{Oam: true}, []byte{0, 0x80, 0, 0, 0, 0, 0, 0}},
		{"a packet", geneve.Tunnel{Proto: 0x0800, Vni: 1 << 16, Inner: []byte{0x45, 0, 0}}, []byte{0, 0, 8, 0, 1, 0, 0, 0, 0x45, 0, 0}},
		{"the last one critical", geneve.Tunnel{Vni: 1, Opts: []geneve.Opt{{Type: 127}, {Type: 128}}}, []byte{2, 0x40, 0, 0, 0, 0, 1, 0, 0, 0, 127, 0, 0, 0, 128, 0}},
		{"the first one critical", geneve.Tunnel{Proto: 1, Opts: []geneve.Opt{{Type: 255}, {Type: 0}}}, []byte{2, 0x40, 0, 1, 0, 0, 0, 0, 0, 0, 255, 0, 0, 0, 0, 0}},
	}
}

// alike: are they one tunnel? (An empty list may be nil or not.)
func alike(a, b geneve.Tunnel) bool {
	if a.Oam != b.Oam || a.Proto != b.Proto || a.Vni != b.Vni || len(a.Opts) != len(b.Opts) || !bytes.Equal(a.Inner, b.Inner) {
		return false
	}
	for i, o := range a.Opts {
		if p := b.Opts[i]; o.Class != p.Class || o.Type != p.Type || !bytes.Equal(o.Data, p.Data) {
			return false
		}
	}
	return true
}

// copied: the same tunnel in memory of its own.
func copied(t geneve.Tunnel) geneve.Tunnel {
	t.Inner = bytes.Clone(t.Inner)
	var l []geneve.Opt
	for _, o := range t.Opts {
		o.Data = bytes.Clone(o.Data)
		l = append(l, o)
	}
	t.Opts = l
	return t
}

// some: a tunnel by chance that can be.
func some(rnd *rand.Rand) geneve.Tunnel {
	t := geneve.Tunnel{Oam: rnd.Intn(2) == 0, Proto: rnd.Intn(65536), Vni: rnd.Intn(1 << 24), Inner: make([]byte, rnd.Intn(40))}
	rnd.Read(t.Inner)
	left := 4 * rnd.Intn(64)
	for left > 0 {
		o := geneve.Opt{Class: rnd.Intn(65536), Type: rnd.Intn(256), Data: make([]byte, 4*rnd.Intn(min(left/4, 32)))}
		if rnd.Intn(2) == 0 { // so that tunnels without a critical option are not rare
			o.Type &= 127
		}
		rnd.Read(o.Data)
		t.Opts = append(t.Opts, o)
		left -= 4 + len(o.Data)
	}
	return t
}

// TestPutAndParse is P7.4, and P6: there and back.
func TestPutAndParse(t *testing.T) {
	rnd := rand.New(rand.NewSource(1))
	for range 5000 {
		u := some(rnd)
		b, e := geneve.Put(u)
		if e != api.OK {
			t.Fatalf("Put(%v) = %d", u, e)
		}
		if back, e := geneve.Parse(b); !alike(back, u) || e != api.OK {
			t.Fatalf("Parse(Put(%v)) = %v, %d", u, back, e)
		}
		thereAndBack(t, b[:rnd.Intn(len(b)+1)])
		for range 10 {
			c := bytes.Clone(b)
			head := len(b) - len(u.Inner)
			c[rnd.Intn(head)] ^= 1 << rnd.Intn(8)
			thereAndBack(t, c)
		}
	}
}

// thereAndBack: Parse reads bytes as the plain one does, and what it takes Put writes as it was, but more than MaxBytes bytes.
func thereAndBack(t *testing.T, b []byte) {
	t.Helper()
	u, e := geneve.Parse(b)
	if want, wantE := plain(b); e != wantE || !alike(u, want) {
		t.Fatalf("Parse(%x) = %v, %d; want %v, %d", b, u, e, want, wantE)
	}
	if e != api.OK {
		return
	}
	back, e := geneve.Put(u)
	if len(b) > api.MaxBytes {
		if e != api.ErrSize || len(back) != 0 {
			t.Fatalf("Put of %d bytes: %d", len(b), e)
		}
		return
	}
	if !bytes.Equal(back, b) || e != api.OK {
		t.Fatalf("Put(Parse(%x)) = %x, %d", b, back, e)
	}
}

// plain is Parse as the document's words say it, byte by byte.
func plain(b []byte) (geneve.Tunnel, api.Errno) {
	switch {
	case len(b) < 8:
		return geneve.Tunnel{}, api.ErrShort
	case b[0] >= 64:
		return geneve.Tunnel{}, api.ErrVersion
	case b[1]%64 != 0, b[7] != 0:
		return geneve.Tunnel{}, api.ErrForm
	case len(b) < 8+4*int(b[0]):
		return geneve.Tunnel{}, api.ErrShort
	}
	t := geneve.Tunnel{Oam: b[1] >= 128, Proto: int(b[2])*256 + int(b[3]), Vni: int(b[4])*65536 + int(b[5])*256 + int(b[6])}
	opts := b[8 : 8+4*int(b[0])]
	t.Inner = b[8+len(opts):]
	isCritical := false
	for len(opts) > 0 {
		if len(opts) < 4 || len(opts) < 4+4*int(opts[3]%32) {
			return geneve.Tunnel{}, api.ErrShort
		}
		if opts[3] >= 32 {
			return geneve.Tunnel{}, api.ErrForm
		}
		end := 4 + 4*int(opts[3])
		t.Opts = append(t.Opts, geneve.Opt{Class: int(opts[0])*256 + int(opts[1]), Type: int(opts[2]), Data: opts[4:end]})
		isCritical = isCritical || opts[2] >= 128
		opts = opts[end:]
	}
	if isCritical != (b[1]/64%2 == 1) {
		return geneve.Tunnel{}, api.ErrForm
	}
	return t, api.OK
}

func TestKind(t *testing.T) {
	for first := range 256 {
		want := 0
		switch {
		case first >= 0x40 && first <= 0x4f:
			want = 0x0800
		case first >= 0x60 && first <= 0x6f:
			want = 0x86dd
		}
		for _, inner := range [][]byte{{byte(first)}, {byte(first), 0x45, 0x60}, append([]byte{byte(first)}, make([]byte, api.MaxBytes)...)} {
			if n := geneve.Kind(inner); n != want {
				t.Errorf("Kind(%x ..) = %x, want %x", first, n, want)
			}
		}
	}
	for _, inner := range [][]byte{nil, {}} {
		if n := geneve.Kind(inner); n != 0 {
			t.Errorf("Kind of no bytes = %x", n)
		}
	}
}

func TestConstants(t *testing.T) {
	if geneve.Port != 6081 || geneve.Least != 36 {
		t.Errorf("Port %d, Least %d", geneve.Port, geneve.Least)
	}
}

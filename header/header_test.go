package header_test

import (
	"bytes"
	"math/rand"
	"testing"

	"steelyard/api"
	"steelyard/header"
	"steelyard/sums"
)

// four, six: an address of these bytes, with 0 behind them.
func four(b ...byte) api.Addr { return fill(false, b) }
func six(b ...byte) api.Addr  { return fill(true, b) }

func fill(v6 bool, b []byte) api.Addr {
	a := api.Addr{V6: v6}
	copy(a.B[:], b)
	return a
}

// small is the packet of the document's example.
func small() header.Ip {
	return header.Ip{Src: four(10, 0, 0, 1), Dst: four(10, 0, 0, 2), Proto: 17, Ttl: 64}
}

func smallBytes() []byte {
	return []byte{0x45, 0, 0, 0x14, 0, 0, 0, 0, 0x40, 0x11, 0x66, 0xd7, 10, 0, 0, 1, 10, 0, 0, 2}
}

// full is a packet of four that has all that one may have.
func full() header.Ip {
	return header.Ip{
		Src: four(192, 168, 0, 1), Dst: four(192, 168, 0, 199), Proto: 6, Ttl: 255, Tos: 0xb8, Id: 0x1234, Df: true,
		Opts: []byte{7, 7, 4, 0, 0, 0, 0, 1}, Data: []byte("hello"),
	}
}

func fullBytes() []byte {
	return append([]byte{
		0x47, 0xb8, 0, 33, 0x12, 0x34, 0x40, 0, 255, 6, 0xd9, 0xc9, 192, 168, 0, 1, 192, 168, 0, 199,
		7, 7, 4, 0, 0, 0, 0, 1,
	}, "hello"...)
}

// wide is a packet of six that has all that one may have.
func wide() header.Ip {
	return header.Ip{
		V6: true, Src: six(0xfd, 0, 0, 0, 0, 0, 0, 0, 0, 0, 0, 0, 0, 0, 0, 1), Dst: six(0x20, 1, 2, 3, 4, 5, 6, 7, 8, 9, 10, 11, 12, 13, 14, 15),
		Proto: 17, Ttl: 63, Tos: 0xb8, Label: 0xabcde, Data: []byte("hello"),
	}
}

func wideBytes() []byte {
	return append([]byte{
		0x6b, 0x8a, 0xbc, 0xde, 0, 5, 17, 63,
		0xfd, 0, 0, 0, 0, 0, 0, 0, 0, 0, 0, 0, 0, 0, 0, 1,
		0x20, 1, 2, 3, 4, 5, 6, 7, 8, 9, 10, 11, 12, 13, 14, 15,
	}, "hello"...)
}

// alike: are they one packet? (An empty list of bytes may be nil or not.)
func alike(a, b header.Ip) bool {
	return a.V6 == b.V6 && a.Src == b.Src && a.Dst == b.Dst && a.Proto == b.Proto && a.Ttl == b.Ttl && a.Tos == b.Tos && a.Id == b.Id && a.Df == b.Df && a.Label == b.Label && bytes.Equal(a.Opts, b.Opts) && bytes.Equal(a.Data, b.Data)
}

// some: a packet by chance that can be.
func some(rnd *rand.Rand) header.Ip {
	h := header.Ip{V6: rnd.Intn(2) == 0, Proto: rnd.Intn(256), Ttl: rnd.Intn(256), Tos: rnd.Intn(256)}
	h.Src.V6, h.Dst.V6 = h.V6, h.V6
	n := 4
	if h.V6 {
		n = 16
		h.Label = rnd.Intn(1 << 20)
	} else {
		h.Id, h.Df, h.Opts = rnd.Intn(65536), rnd.Intn(2) == 0, make([]byte, 4*rnd.Intn(11))
		rnd.Read(h.Opts)
	}
	rnd.Read(h.Src.B[:n])
	rnd.Read(h.Dst.B[:n])
	h.Data = make([]byte, rnd.Intn(30))
	rnd.Read(h.Data)
	return h
}

// mend: a packet of four with the sum that its head has to have, so that another fault of it is told.
func mend(b []byte) []byte {
	head := 4 * int(b[0]&15)
	b[10], b[11] = 0, 0
	sum := sums.Inet(b[:head])
	b[10], b[11] = byte(sum>>8), byte(sum)
	return b
}

func TestSize(t *testing.T) {
	for _, c := range []struct {
		h    header.Ip
		want int
	}{
		{header.Ip{}, 20},
		{small(), 20},
		{full(), 28},
		{header.Ip{Opts: make([]byte, 40), Data: make([]byte, 9)}, 60},
		{header.Ip{Opts: make([]byte, 41)}, 61}, // of one that can't be, too
		{header.Ip{V6: true}, 40},
		{wide(), 40},
		{header.Ip{V6: true, Opts: make([]byte, 8)}, 40},
	} {
		if n := header.Size(c.h); n != c.want {
			t.Errorf("Size(%v) = %d, want %d", c.h, n, c.want)
		}
	}
}

func TestPseudo(t *testing.T) {
	odd := small()
	odd.Proto, odd.Src.B[5], odd.Dst.B[15] = 0x12345, 9, 9 // what can't be: the lowest bits, and the first four bytes
	below := small()
	below.Proto = -1
	long := small()
	long.Data = make([]byte, 65536+3)
	kinds := small()
	kinds.V6, kinds.Src.B[15] = true, 7 // V6 says how many bytes, not the address's kind
	for _, c := range []struct {
		name string
		h    header.Ip
		want uint16
	}{
		{"nothing", header.Ip{}, 0},
		{"nothing of six", header.Ip{V6: true}, 0},
		{"small", small(), 0x0a00 + 1 + 0x0a00 + 2 + 17},
		{"full", full(), 0xc0a8 + 1 - 65535 + 0xc0a8 + 199 + 6 + 5},
		{"wide", wide(), 0xfd00 + 1 + 0x2001 - 65535 + 0x0203 + 0x0405 + 0x0607 + 0x0809 + 0x0a0b + 0x0c0d + 0x0e0f + 17 + 5},
		{"bytes that play no part", odd, 0x0a00 + 1 + 0x0a00 + 2 + 0x2345},
		{"a number below 0", below, 0x0a00 + 1 + 0x0a00 + 2}, // adding 65535 to what is not 0 changes nothing
		{"more data than 16 bits tell", long, 0x0a00 + 1 + 0x0a00 + 2 + 17 + 3},
		{"sixteen bytes, as V6 says", kinds, 0x0a00 + 1 + 7 + 0x0a00 + 2 + 17},
		{"data whose number has two bytes", header.Ip{Proto: 6, Data: make([]byte, 0x1234)}, 0x1234 + 6},
	} {
		if n := header.Pseudo(c.h); n != c.want {
			t.Errorf("%s: Pseudo = %x, want %x", c.name, n, c.want)
		}
	}
}

// TestPseudoAsAllBytes holds Pseudo against one Add of all the bytes that the document names.
func TestPseudoAsAllBytes(t *testing.T) {
	rnd := rand.New(rand.NewSource(1))
	for range 1000 {
		h := some(rnd)
		n := 4
		if h.V6 {
			n = 16
		}
		var b []byte
		b = append(append(b, h.Src.B[:n]...), h.Dst.B[:n]...)
		b = append(b, 0, byte(h.Proto), 0, byte(len(h.Data)))
		if got, want := header.Pseudo(h), sums.Add(0, b); got != want {
			t.Fatalf("Pseudo(%v) = %x, want %x", h, got, want)
		}
	}
}

package segment_test

import (
	"bytes"
	"math"
	"testing"

	"steelyard/api"
	"steelyard/header"
	"steelyard/segment"
)

func TestPut(t *testing.T) {
	for _, k := range knowns() {
		if b, e := segment.Put(k.h, k.s); !bytes.Equal(b, k.b) || e != api.OK {
			t.Errorf("%s: Put = %x, %d; want %x", k.name, b, e, k.b)
		}
		h := k.h
		h.Data, h.Ttl, h.Tos, h.Id, h.Df, h.Label, h.Opts = []byte("other"), -1, 7, 8, true, 9, []byte{1, 2, 3, 4}
		if b, e := segment.Put(h, k.s); !bytes.Equal(b, k.b) || e != api.OK {
			t.Errorf("%s, in a packet of other data: Put = %x, %d; want %x", k.name, b, e, k.b)
		}
	}
}

// put fails unless Put answers that error, and with it no bytes.
func put(t *testing.T, name string, h header.Ip, s segment.Seg, want api.Errno) {
	t.Helper()
	b, e := segment.Put(h, s)
	if e != want || e != api.OK && len(b) != 0 {
		t.Errorf("%s: Put = %d bytes, %d; want %d", name, len(b), e, want)
	}
	if e == api.OK {
		if back, e := segment.Parse(with(h, b)); !alike(back, s) || e != api.OK {
			t.Errorf("%s: Parse(Put) = %d", name, e)
		}
	}
}

func TestPutOfAnotherProtocol(t *testing.T) {
	wrong := []int{math.MinInt, -6, -1, 0, 1, 5, 7, 16, 18, 58, 255, 256 + api.Tcp, 256 + api.Udp, math.MaxInt}
	for _, k := range knowns() {
		h, s := k.h, k.s
		s.SrcPort, s.Data = -1, make([]byte, api.MaxBytes+1) // another protocol goes ahead of all else
		for _, n := range wrong {
			h.Proto, s.Proto = n, k.s.Proto
			put(t, "of the packet", h, s, api.ErrProto)
			h.Proto, s.Proto = k.h.Proto, n
			put(t, "of the segment", h, s, api.ErrProto)
			h.Proto, s.Proto = n, n
			put(t, "of both", h, s, api.ErrProto)
		}
		h.Proto, s.Proto = k.h.Proto, api.Tcp+api.Udp-k.s.Proto
		put(t, "of the segment the other one", h, s, api.ErrProto)
	}
}

// edge is what makes a segment one that is at an edge, or beyond it.
type edge struct {
	name  string
	spoil func(s *segment.Seg)
}

// numbers: those that an edge is tried with.
func numbers(name string, of func(s *segment.Seg) *int, l ...int) []edge {
	var edges []edge
	for _, n := range l {
		edges = append(edges, edge{name, func(s *segment.Seg) { *of(s) = n }})
	}
	return edges
}

func beyond(most int) []int {
	return []int{math.MinInt, math.MinInt + 1, -most - 1, -1, most + 1, 2*most + 2, math.MaxInt}
}

func srcPort(s *segment.Seg) *int { return &s.SrcPort }
func dstPort(s *segment.Seg) *int { return &s.DstPort }
func flags(s *segment.Seg) *int   { return &s.Flags }
func window(s *segment.Seg) *int  { return &s.Window }
func urg(s *segment.Seg) *int     { return &s.Urg }

func TestPutAtTheEdges(t *testing.T) {
	var l []edge
	l = append(l, numbers("SrcPort", srcPort, 0, 1, 65534, 65535)...)
	l = append(l, numbers("DstPort", dstPort, 0, 1, 65534, 65535)...)
	for _, k := range knowns() {
		all := l
		if k.s.Proto == api.Tcp {
			all = append(all, numbers("Flags", flags, 0, 1, 63, 64, 128, 254, 255)...)
			all = append(all, numbers("Window", window, 0, 1, 65534, 65535)...)
			all = append(all, numbers("Urg", urg, 0, 1, 65534, 65535)...)
			for n := 0; n <= 40; n += 4 {
				all = append(all, edge{"Opts", func(s *segment.Seg) { s.Opts = bytes.Repeat([]byte{1}, n) }})
			}
			for _, n := range []uint32{0, 1, 1 << 31, math.MaxUint32} {
				all = append(all, edge{"Seq", func(s *segment.Seg) { s.Seq = n }}, edge{"Ack", func(s *segment.Seg) { s.Ack = n }})
			}
		}
		for _, c := range all {
			s := k.s
			c.spoil(&s)
			put(t, k.name+", "+c.name, k.h, s, api.OK)
		}
	}
}

// faults: what makes a segment one that can't be.
func faults(h header.Ip) []edge {
	var l []edge
	l = append(l, numbers("SrcPort", srcPort, beyond(65535)...)...)
	l = append(l, numbers("DstPort", dstPort, beyond(65535)...)...)
	if h.Proto == api.Tcp {
		l = append(l, numbers("Flags", flags, beyond(255)...)...)
		l = append(l, numbers("Window", window, beyond(65535)...)...)
		l = append(l, numbers("Urg", urg, beyond(65535)...)...)
		for _, n := range []int{1, 2, 3, 5, 38, 39, 41, 44, 64, 256, api.MaxBytes, api.MaxBytes + 1} {
			l = append(l, edge{"Opts", func(s *segment.Seg) { s.Opts = make([]byte, n) }})
		}
		return append(l, edge{"NoSum", func(s *segment.Seg) { s.NoSum = true }})
	}
	l = append(l, numbers("Flags", flags, beyond(0)...)...)
	l = append(l, numbers("Window", window, beyond(0)...)...)
	l = append(l, numbers("Urg", urg, beyond(0)...)...)
	for _, n := range []uint32{1, 1 << 31, math.MaxUint32} {
		l = append(l, edge{"Seq", func(s *segment.Seg) { s.Seq = n }}, edge{"Ack", func(s *segment.Seg) { s.Ack = n }})
	}
	for _, n := range []int{1, 4, 40, 44} {
		l = append(l, edge{"Opts", func(s *segment.Seg) { s.Opts = make([]byte, n) }})
	}
	if h.V6 {
		l = append(l, edge{"NoSum", func(s *segment.Seg) { s.NoSum = true }})
	}
	return l
}

func TestPutOfWhatCanNotBe(t *testing.T) {
	for _, k := range knowns() {
		for _, f := range faults(k.h) {
			s := k.s
			f.spoil(&s)
			put(t, k.name+", "+f.name, k.h, s, api.ErrArg)
			s.Data = make([]byte, api.MaxBytes+1) // what can't be goes ahead of what is too long
			put(t, k.name+", "+f.name+", and too long", k.h, s, api.ErrArg)
		}
	}
}

func TestPutAtMaxBytes(t *testing.T) {
	for _, k := range knowns() {
		s := k.s
		head := len(k.b) - len(k.s.Data)
		for _, less := range []int{0, 1, 2} {
			s.Data = bytes.Repeat([]byte{0xa5}, api.MaxBytes-head-less)
			put(t, k.name, k.h, s, api.OK)
		}
		for _, more := range []int{1, 2, 3, 20, api.MaxBytes, 65536} {
			s.Data = make([]byte, api.MaxBytes-head+more)
			put(t, k.name, k.h, s, api.ErrSize)
		}
	}
}

// TestPutOfAddressesThatCanNotBe: the chapter names no error for them; as many of their bytes as V6 says go into the sum.
func TestPutOfAddressesThatCanNotBe(t *testing.T) {
	k := small()
	k.h.Src.B[4], k.h.Dst.V6 = 9, true
	if b, e := segment.Put(k.h, k.s); !bytes.Equal(b, k.b) || e != api.OK {
		t.Errorf("Put = %x, %d", b, e)
	}
	k.h.V6 = true
	put(t, "of six", k.h, k.s, api.OK)
	if b, _ := segment.Put(k.h, k.s); bytes.Equal(b, k.b) {
		t.Errorf("Put of six = %x", b)
	}
}

func TestPutSharesNoMemory(t *testing.T) {
	for _, k := range knowns() {
		b, _ := segment.Put(k.h, k.s)
		_ = append(b, "!!!!!!!!"...)
		clear(b)
		for _, again := range knowns() {
			if again.name == k.name && !alike(k.s, again.s) {
				t.Errorf("%s: what was given is %v", k.name, k.s)
			}
		}
		b, _ = segment.Put(k.h, k.s)
		clear(k.s.Opts)
		clear(k.s.Data)
		if !bytes.Equal(b, k.b) {
			t.Errorf("%s: an answer behind a change of what was given is %x", k.name, b)
		}
	}
}

// TestPutKeepsThePacket: the data of a packet that is handed in play no part, and stay as they were.
func TestPutKeepsThePacket(t *testing.T) {
	for _, k := range knowns() {
		given := []byte("as it was")
		h := with(k.h, given)
		segment.Put(h, k.s)
		segment.Parse(h)
		if string(given) != "as it was" || string(h.Data) != "as it was" {
			t.Errorf("%s: what was given is %q", k.name, given)
		}
	}
}

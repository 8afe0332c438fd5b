package header_test

import (
	"bytes"
	"math"
	"testing"

	"steelyard/api"
	"steelyard/header"
)

func TestPut(t *testing.T) {
	for _, c := range []struct {
		name string
		h    header.Ip
		want []byte
	}{
		{"example", small(), smallBytes()},
		{"full", full(), fullBytes()},
		{"wide", wide(), wideBytes()},
		{"nothing", header.Ip{}, mend([]byte{0x45, 0, 0, 20, 0, 0, 0, 0, 0, 0, 0, 0, 0, 0, 0, 0, 0, 0, 0, 0})},
		{"nothing of six", header.Ip{V6: true, Src: six(), Dst: six()}, append([]byte{0x60}, make([]byte, 39)...)},
	} {
		if b, e := header.Put(c.h); !bytes.Equal(b, c.want) || e != api.OK {
			t.Errorf("%s: Put = %x, %d; want %x", c.name, b, e, c.want)
		}
	}
}

// TestPutAtTheEdges: the greatest numbers that can be, and the most bytes.
func TestPutAtTheEdges(t *testing.T) {
	for _, c := range []struct {
		name  string
		h     header.Ip
		spoil func(h *header.Ip)
		at    int
		want  []byte
	}{
		{"Proto", small(), func(h *header.Ip) { h.Proto = 255 }, 9, []byte{255}},
		{"Ttl", small(), func(h *header.Ip) { h.Ttl = 255 }, 8, []byte{255}},
		{"Tos", small(), func(h *header.Ip) { h.Tos = 255 }, 1, []byte{255}},
		{"Id", small(), func(h *header.Ip) { h.Id = 65535 }, 4, []byte{255, 255}},
		{"Df", small(), func(h *header.Ip) { h.Df = true }, 6, []byte{0x40, 0}},
		{"Opts", small(), func(h *header.Ip) { h.Opts = bytes.Repeat([]byte{1}, 40) }, 0, []byte{0x4f, 0, 0, 60}},
		{"Data", small(), func(h *header.Ip) { h.Data = make([]byte, api.MaxBytes-20) }, 2, []byte{255, 255}},
		{"Opts and Data", full(), func(h *header.Ip) { h.Data = make([]byte, api.MaxBytes-28) }, 2, []byte{255, 255}},
		{"Proto of six", wide(), func(h *header.Ip) { h.Proto = 255 }, 6, []byte{255}},
		{"Ttl of six", wide(), func(h *header.Ip) { h.Ttl = 255 }, 7, []byte{255}},
		{"Tos of six", wide(), func(h *header.Ip) { h.Tos = 255 }, 0, []byte{0x6f, 0xfa, 0xbc, 0xde}},
		{"Label", wide(), func(h *header.Ip) { h.Label = 1<<20 - 1 }, 0, []byte{0x6b, 0x8f, 0xff, 0xff}},
		{"Data of six", wide(), func(h *header.Ip) { h.Data = make([]byte, api.MaxBytes-40) }, 4, []byte{0xff, 0xd7}},
	} {
		c.spoil(&c.h)
		b, e := header.Put(c.h)
		if e != api.OK || len(b) != header.Size(c.h)+len(c.h.Data) || !bytes.Equal(b[c.at:c.at+len(c.want)], c.want) {
			t.Errorf("%s: Put = %d bytes, %d", c.name, len(b), e)
			continue
		}
		if back, e := header.Parse(b); !alike(back, c.h) || e != api.OK {
			t.Errorf("%s: Parse(Put) = %d", c.name, e)
		}
	}
}

// fault is what makes a packet one that can't be.
type fault struct {
	name  string
	spoil func(h *header.Ip)
}

func faults(v6 bool) []fault {
	number := func(name string, of func(h *header.Ip) *int, most int) []fault {
		var l []fault
		for _, n := range []int{math.MinInt, math.MinInt + 1, -most - 1, -1, most + 1, 2*most + 2, math.MaxInt} {
			l = append(l, fault{name, func(h *header.Ip) { *of(h) = n }})
		}
		return l
	}
	l := []fault{
		{"Src of the other kind", func(h *header.Ip) { h.Src = api.Addr{V6: !v6} }},
		{"Dst of the other kind", func(h *header.Ip) { h.Dst = api.Addr{V6: !v6} }},
		{"V6 of the other kind", func(h *header.Ip) { h.V6, h.Id, h.Df, h.Label, h.Opts = !v6, 0, false, 0, nil }},
		{"Src that can't be", func(h *header.Ip) { h.Src = four(1, 2, 3, 4, 5) }},
		{"Dst that can't be", func(h *header.Ip) { h.Dst = four(1, 2, 3, 4, 0, 0, 0, 0, 0, 0, 0, 0, 0, 0, 0, 5) }},
	}
	l = append(l, number("Proto", func(h *header.Ip) *int { return &h.Proto }, 255)...)
	l = append(l, number("Ttl", func(h *header.Ip) *int { return &h.Ttl }, 255)...)
	l = append(l, number("Tos", func(h *header.Ip) *int { return &h.Tos }, 255)...)
	if v6 {
		l = append(l, number("Id", func(h *header.Ip) *int { return &h.Id }, 0)...)
		l = append(l, number("Label", func(h *header.Ip) *int { return &h.Label }, 1<<20-1)...)
		l = append(l, fault{"Df", func(h *header.Ip) { h.Df = true }})
		l = append(l, fault{"Opts", func(h *header.Ip) { h.Opts = make([]byte, 4) }})
		return append(l, fault{"Opts", func(h *header.Ip) { h.Opts = []byte{0} }})
	}
	l = append(l, number("Id", func(h *header.Ip) *int { return &h.Id }, 65535)...)
	l = append(l, number("Label", func(h *header.Ip) *int { return &h.Label }, 0)...)
	for _, n := range []int{1, 2, 3, 5, 38, 39, 41, 44, 64, 256, api.MaxBytes, api.MaxBytes + 1} {
		l = append(l, fault{"Opts", func(h *header.Ip) { h.Opts = make([]byte, n) }})
	}
	return l
}

func TestPutOfWhatCanNotBe(t *testing.T) {
	for _, good := range []header.Ip{full(), wide()} {
		for _, f := range faults(good.V6) {
			h := good
			f.spoil(&h)
			if b, e := header.Put(h); len(b) != 0 || e != api.ErrArg {
				t.Errorf("%s: Put(%v) = %x, %d", f.name, h, b, e)
			}
			h.Data = make([]byte, api.MaxBytes+1) // what can't be goes ahead of what is too long
			if b, e := header.Put(h); len(b) != 0 || e != api.ErrArg {
				t.Errorf("%s, and too long: Put = %x, %d", f.name, b, e)
			}
		}
	}
}

func TestPutOfTooMany(t *testing.T) {
	for _, h := range []header.Ip{small(), full(), wide()} {
		for _, more := range []int{1, 2, 3, 40, api.MaxBytes, 65536 + 20, 65536 + 40} {
			h.Data = make([]byte, api.MaxBytes-header.Size(h)+more)
			if b, e := header.Put(h); len(b) != 0 || e != api.ErrSize {
				t.Errorf("Put of %d bytes = %d, %d", header.Size(h)+len(h.Data), len(b), e)
			}
		}
	}
}

func TestPutSharesNoMemory(t *testing.T) {
	h := full()
	b, _ := header.Put(h)
	clear(b)
	if !alike(h, full()) {
		t.Errorf("what was given is %v", h)
	}
	b, _ = header.Put(h)
	clear(h.Opts)
	clear(h.Data)
	if !bytes.Equal(b, fullBytes()) {
		t.Errorf("an answer behind a change of what was given is %x", b)
	}
}

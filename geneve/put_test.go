package geneve_test

import (
	"bytes"
	"math"
	"testing"

	"steelyard/api"
	"steelyard/geneve"
)

func TestPut(t *testing.T) {
	for _, k := range knowns() {
		if b, e := geneve.Put(k.t); !bytes.Equal(b, k.b) || e != api.OK {
			t.Errorf("%s: Put = %x, %d; want %x", k.name, b, e, k.b)
		}
	}
}

// put fails unless Put answers that error, and with it no bytes; what it writes has to be read as it was.
func put(t *testing.T, name string, u geneve.Tunnel, want api.Errno) {
	t.Helper()
	b, e := geneve.Put(u)
	if e != want || e != api.OK && len(b) != 0 {
		t.Errorf("%s: Put = %d bytes, %d; want %d", name, len(b), e, want)
	}
	if e == api.OK {
		if back, e := geneve.Parse(b); !alike(back, u) || e != api.OK {
			t.Errorf("%s: Parse(Put) = %d", name, e)
		}
	}
}

// edge is what makes a tunnel one that is at an edge, or beyond it.
type edge struct {
	name  string
	spoil func(u *geneve.Tunnel)
}

func protos(l ...int) []edge {
	var edges []edge
	for _, n := range l {
		edges = append(edges, edge{"Proto", func(u *geneve.Tunnel) { u.Proto = n }})
	}
	return edges
}

func vnis(l ...int) []edge {
	var edges []edge
	for _, n := range l {
		edges = append(edges, edge{"Vni", func(u *geneve.Tunnel) { u.Vni = n }})
	}
	return edges
}

// opts: an option as the only one, ahead of another one, and behind it.
func opts(name string, o geneve.Opt) []edge {
	other := geneve.Opt{Class: 1, Type: 1, Data: []byte("data")}
	var edges []edge
	for _, l := range [][]geneve.Opt{{o}, {o, other}, {other, o}} {
		edges = append(edges, edge{name, func(u *geneve.Tunnel) { u.Opts = l }})
	}
	return edges
}

func beyond(most int) []int {
	return []int{math.MinInt, math.MinInt + 1, -most - 1, -1, most + 1, 2*most + 2, math.MaxInt}
}

func TestPutAtTheEdges(t *testing.T) {
	l := append(protos(0, 1, 0x0800, 0x86dd, 65534, 65535), vnis(0, 1, 255, 256, 65535, 65536, 1<<24-2, 1<<24-1)...)
	for _, n := range []int{0, 1, 255, 256, 65534, 65535} {
		l = append(l, opts("Class", geneve.Opt{Class: n})...)
	}
	for _, n := range []int{0, 1, 126, 127, 128, 129, 254, 255} {
		l = append(l, opts("Type", geneve.Opt{Type: n})...)
	}
	for n := 0; n <= 124; n += 4 {
		l = append(l, opts("Data", geneve.Opt{Data: bytes.Repeat([]byte{9}, n)})...)
	}
	for _, k := range knowns() {
		for _, c := range l {
			u := k.t
			c.spoil(&u)
			put(t, k.name+", "+c.name, u, api.OK)
		}
	}
}

// faults: what makes a tunnel one that can't be.
func faults() []edge {
	l := append(protos(beyond(65535)...), vnis(beyond(1<<24-1)...)...)
	for _, n := range beyond(65535) {
		l = append(l, opts("Class", geneve.Opt{Class: n})...)
	}
	for _, n := range beyond(255) {
		l = append(l, opts("Type", geneve.Opt{Type: n})...)
	}
	for _, n := range []int{1, 2, 3, 5, 122, 123, 125, 126, 127, 128, 252, 256, 65536} {
		l = append(l, opts("Data", geneve.Opt{Data: make([]byte, n)})...)
	}
	return l
}

func TestPutOfWhatCanNotBe(t *testing.T) {
	for _, k := range knowns() {
		for _, f := range faults() {
			u := k.t
			f.spoil(&u)
			put(t, k.name+", "+f.name, u, api.ErrArg)
			u.Inner = make([]byte, api.MaxBytes+1) // what can't be goes ahead of what is too long
			put(t, k.name+", "+f.name+", and too long", u, api.ErrArg)
			u.Opts = append(make([]geneve.Opt, 64), u.Opts...)
			put(t, k.name+", "+f.name+", and too many options", u, api.ErrArg)
		}
	}
}

// TestPutOfTooManyOptions: 252 bytes of options go, be they few or many, and 256 do not.
func TestPutOfTooManyOptions(t *testing.T) {
	for _, c := range []struct {
		sizes []int
		want  api.Errno
	}{
		{[]int{124, 120}, api.OK},
		{[]int{120, 124}, api.OK},
		{[]int{124, 124}, api.ErrSize},
		{[]int{124, 116, 0}, api.OK},
		{[]int{124, 120, 0}, api.ErrSize},
		{[]int{60, 60, 60, 56}, api.OK},
		{[]int{60, 60, 60, 60}, api.ErrSize},
		{make([]int, 63), api.OK},
		{make([]int, 64), api.ErrSize},
		{append(make([]int, 62), 4), api.ErrSize},
		{make([]int, 128), api.ErrSize}, // twice as many words as six bits tell
		{make([]int, api.MaxGrow+1), api.ErrSize},
		{make([]int, 100000), api.ErrSize},
	} {
		var u geneve.Tunnel
		for _, n := range c.sizes {
			u.Opts = append(u.Opts, geneve.Opt{Data: make([]byte, n)})
		}
		put(t, "options", u, c.want)
		u.Inner = make([]byte, api.MaxBytes+1)
		put(t, "options, and too long", u, api.ErrSize)
	}
}

func TestPutAtMaxBytes(t *testing.T) {
	for _, k := range knowns() {
		head := len(k.b) - len(k.t.Inner)
		for _, less := range []int{0, 1, 2} {
			k.t.Inner = bytes.Repeat([]byte{0x45}, api.MaxBytes-head-less)
			put(t, k.name, k.t, api.OK)
		}
		for _, more := range []int{1, 2, 3, 8, api.MaxBytes, 65536} {
			k.t.Inner = make([]byte, api.MaxBytes-head+more)
			put(t, k.name, k.t, api.ErrSize)
		}
	}
}

// TestPutSharesNoMemory: what is handed in stays as it was, and what is answered is new each time.
func TestPutSharesNoMemory(t *testing.T) {
	for _, k := range knowns() {
		given := copied(k.t)
		b, _ := geneve.Put(given)
		again, _ := geneve.Put(given)
		clear(b)
		if !alike(given, k.t) || !bytes.Equal(again, k.b) {
			t.Errorf("%s: behind a change of an answer: %v, %x", k.name, given, again)
		}
		clear(given.Inner)
		for _, o := range given.Opts {
			clear(o.Data)
		}
		if !bytes.Equal(again, k.b) {
			t.Errorf("%s: behind a change of what was given: %x", k.name, again)
		}
	}
}

package node_test

import (
	"bytes"
	"slices"
	"testing"

	"steelyard/api"
	"steelyard/geneve"
	"steelyard/letter"
	"steelyard/node"
)

// alone: one replica that knows the backend 2 at an address.
func alone(t testing.TB, c node.Conf, a api.Addr) *node.Node {
	t.Helper()
	x := made(t, 0, c)
	admin(t, x, add(2, a))
	return x
}

// gave: a result of a packet that its owner gave to the backend 2 of Gen 1, at once.
func gave(t testing.TB, now int64, a api.Addr, x api.Tuple, flags int, fresh bool, b []byte) node.Result {
	t.Helper()
	return node.Result{
		Grants: []node.Grant{{T: x, Flags: flags, Backend: 2, Gen: 1, Until: now, New: fresh}},
		Frames: []node.Frame{frame(t, 0, 2, 1, a, x, b)},
	}
}

// TestExample is the document's: one replica; a backend, a flow, then it is drained.
func TestExample(t *testing.T) {
	a := four(10, 1, 0, 2)
	x := alone(t, conf(1), a)
	syn, ack := packet(t, tcp(1), api.Syn), packet(t, tcp(1), api.Ack, 1, 2, 3)
	r := x.Packet(syn)
	comes(t, r, gave(t, 0, a, tcp(1), api.Syn, true, syn))
	p, in, e := geneve.Unwrap(r.Frames[0].Data)
	if e != api.OK || p.Src != four(172, 16, 0, 1) || p.Dst != a || p.Ttl != 64 || in.Vni != 1 || in.Proto != 0x0800 || !bytes.Equal(in.Inner, syn) {
		t.Fatalf("%v, %v, %d", p, in, e)
	}
	if len(in.Opts) != 1 || in.Opts[0].Class != 1 || in.Opts[0].Type != 1 || !bytes.Equal(in.Opts[0].Data, []byte{0, 0, 0, 0, 0, 0, 0, 1}) {
		t.Fatalf("options %v", in.Opts)
	}
	admin(t, x, drained(2))
	comes(t, x.Packet(ack), gave(t, 0, a, tcp(1), api.Ack, false, ack))
	comes(t, x.Packet(packet(t, tcp(2), api.Syn)), drops(node.NoBackend))
	counted(t, x, 0, 0, 0, 1)
}

// TestFrames: to addresses of four and of six, of packets of both kinds, from each replica.
func TestFrames(t *testing.T) {
	for me := range 16 {
		all := []int{0, 1, 2, 3, 4, 5, 6, 7, 8, 9, 10, 11, 12, 13, 14, 15}
		for _, a := range []api.Addr{four(10, 1, 0, 2), six(0xfd, 9, 8), four(), six()} {
			x := made(t, me, conf(16))
			admin(t, x, add(2, a))
			for i, y := range owned(t, me, 6, all...) {
				b := packet(t, y, 0, bytes.Repeat([]byte{7}, i)...)
				r := x.Packet(b)
				comes(t, r, node.Result{
					Grants: []node.Grant{{From: me, T: y, Backend: 2, Gen: 1, New: true}},
					Frames: []node.Frame{frame(t, me, 2, 1, a, y, b)},
				})
			}
		}
	}
}

// TestOfItsGen: a frame goes to the Gen that is known, and says which one it is.
func TestOfItsGen(t *testing.T) {
	for _, gen := range []int64{1, 2, 255, 256, 1 << 32, ticks} {
		x := made(t, 0, conf(2))
		u := known(2, gen, api.Active)
		comes(t, hears(t, x, 1, updates(u)), node.Result{})
		y := owned(t, 0, 1, 0, 1)[0]
		b := packet(t, y, 0)
		comes(t, x.Packet(b), node.Result{
			Grants: []node.Grant{{T: y, Backend: 2, Gen: gen, New: true}},
			Frames: []node.Frame{frame(t, 0, 2, gen, u.Rec.Spec.Addr, y, b)},
		})
	}
}

// TestNoPackets: bytes that have no tuple, each by what is wrong with them; they change nothing but a count.
func TestNoPackets(t *testing.T) {
	x := alone(t, conf(1), four(10))
	was := state(x)
	other6 := packet(t, tcp6(1), 0)
	other6[6] = 58
	for _, b := range malformed(t) {
		comes(t, x.Packet(b), drops(node.Malformed))
	}
	for _, b := range [][]byte{icmp(t), other6} {
		comes(t, x.Packet(b), drops(node.Other))
	}
	comes(t, x.Packet(fragment(t)), drops(node.Fragment))
	broken := fragment(t) // where two things are wrong, what is named first
	broken[10] ^= 1
	comes(t, x.Packet(broken), drops(node.Malformed))
	counted(t, x, uint64(len(malformed(t))+1), 2, 1)
	if state(x) != was {
		t.Errorf("%s, was %s", state(x), was)
	}
}

// TestOfNoFlow: without a backend NoBackend, even of a Rst; with one a Rst is Stray, even where there is no room.
func TestOfNoFlow(t *testing.T) {
	c := conf(1)
	c.Flows = 2
	a := four(10)
	x := made(t, 0, c)
	comes(t, x.Packet(packet(t, tcp(1), api.Syn)), drops(node.NoBackend))
	comes(t, x.Packet(packet(t, tcp(1), api.Rst)), drops(node.NoBackend))
	admin(t, x, add(2, a))
	comes(t, x.Packet(packet(t, tcp(1), api.Rst)), drops(node.Stray))
	if len(x.Pins()) != 0 {
		t.Errorf("Pins = %v", x.Pins())
	}
	for i, y := range []api.Tuple{tcp(1), udp(1)} {
		b := packet(t, y, 0)
		comes(t, x.Packet(b), gave(t, 0, a, y, 0, true, b))
		if len(x.Pins()) != i+1 {
			t.Errorf("Pins = %v", x.Pins())
		}
	}
	comes(t, x.Packet(packet(t, tcp(3), api.Syn)), drops(node.NoRoom))
	comes(t, x.Packet(packet(t, tcp(3), api.Rst|api.Ack)), drops(node.Stray))
	counted(t, x, 0, 0, 0, 2, 1, 0, 0, 0, 2)
	b := packet(t, tcp(1), api.Rst) // of one that lives it is its last packet
	comes(t, x.Packet(b), gave(t, 0, a, tcp(1), api.Rst, false, b))
	comes(t, x.Packet(b), drops(node.Stray))
	b = packet(t, tcp(3), api.Syn)
	comes(t, x.Packet(b), gave(t, 0, a, tcp(3), api.Syn, true, b))
}

// TestTooLong: of a frame that has just as many bytes as may be, and of one byte more; its packet was granted.
func TestTooLong(t *testing.T) {
	for _, a := range []api.Addr{four(10, 1), six(0xfd, 5)} {
		b := packet(t, tcp(1), 0, make([]byte, 100)...)
		c := conf(1)
		c.Mtu = len(frame(t, 0, 2, 1, a, tcp(1), b).Data)
		x := alone(t, c, a)
		want := gave(t, 0, a, tcp(1), 0, true, b)
		comes(t, x.Packet(b), want)
		c.Mtu--
		x = alone(t, c, a)
		want.Frames, want.Drops = nil, []int{node.TooLong}
		comes(t, x.Packet(b), want)
		counted(t, x, 0, 0, 0, 0, 0, 1)
		if p := x.Pins(); len(p) != 1 || p[0].Backend != 2 {
			t.Errorf("Pins = %v", p)
		}
	}
	c := conf(1)
	c.Mtu = 65535
	x := alone(t, c, four(10))
	for more, want := range []int{1, 1, 0, 0} { // of more than any packet may have
		b := packet(t, tcp(1), 0, make([]byte, 65535-48-40-1+more)...)
		if r := x.Packet(b); len(r.Grants) != 1 || len(r.Frames) != want || len(r.Drops) != 1-want {
			t.Errorf("of %d bytes: %v", len(b), r.Drops)
		}
	}
}

// TestOneBackend: a flow's packets get its backend, whatever becomes of that, and of others; at the address that is known then.
func TestOneBackend(t *testing.T) {
	x := alone(t, conf(2), four(10))
	y := owned(t, 0, 1, 0, 1)[0]
	b := packet(t, y, 0)
	r := x.Packet(b)
	one := func(now int64, a api.Addr) {
		t.Helper()
		comes(t, x.Packet(b), gave(t, now, a, y, 0, false, b))
	}
	comes(t, r, gave(t, 0, four(10), y, 0, true, b))
	for backend := range 32 {
		if backend != 2 {
			admin(t, x, add(backend, four(11, byte(backend))))
		}
		one(0, four(10))
	}
	admin(t, x, add(2, six(0xfd)))
	one(0, six(0xfd))
	x.Vote(2, false)
	hears(t, x, 1, updates(known(2, 1, api.Draining)))
	one(0, six(0xfd))
	for now := int64(20); now <= 200; now += 20 { // as long as it lives
		tick(x, 20)
		one(now, six(0xfd))
	}
	tick(x, 61)
	if r := x.Packet(b); len(r.Grants) != 1 || !r.Grants[0].New || r.Grants[0].Backend == 2 {
		t.Errorf("behind its end: %v", r)
	}
}

// TestOfAnotherGen: a flow of a Gen that is known no more goes nowhere, though its packet came.
func TestOfAnotherGen(t *testing.T) {
	for _, is := range []int{api.Active, api.Draining, api.Released} {
		x := alone(t, conf(2), four(10))
		y := owned(t, 0, 1, 0, 1)[0]
		x.Packet(packet(t, y, 0))
		want := node.Result{}
		if is == api.Released {
			want.Gone = []node.Gone{{Backend: 2, Gen: 2}}
		}
		comes(t, hears(t, x, 1, updates(known(2, 2, is))), want)
		x.Tick()
		comes(t, x.Packet(packet(t, y, 0)), drops(node.NoBackend))
		counted(t, x, 0, 0, 0, 1)
		comes(t, hears(t, x, 1, asked(7, y, 0)), node.Result{Out: []node.Out{out(t, 1, told(letter.Answer{Id: 7, Why: letter.NoOne}))}})
		if p := x.Pins(); len(p) != 1 || p[0].Gen != 1 || p[0].F.Last != 1 {
			t.Errorf("Pins = %v", p)
		}
	}
	x := alone(t, conf(2), four(10)) // of that Gen, released by somebody else, it goes there still
	y := owned(t, 0, 1, 0, 1)[0]
	b := packet(t, y, 0)
	x.Packet(b)
	comes(t, hears(t, x, 1, updates(known(2, 1, api.Released))), node.Result{Gone: []node.Gone{{Backend: 2, Gen: 1}}})
	comes(t, x.Packet(b), gave(t, 0, four(10, 1, 0, 2), y, 0, false, b)) // the later one of two addresses
}

// TestAsks: a packet of another one's flow waits, under the next number; the seventeenth is too many.
func TestAsks(t *testing.T) {
	x := made(t, 0, conf(3))
	admin(t, x, add(2, four(10)))
	var all []api.Tuple
	for _, to := range []int{1, 2} {
		all = append(all, owned(t, to, 10, 0, 1, 2)...)
	}
	id := int64(0)
	for i, y := range all {
		to := 1 + i/10
		for _, flags := range []int{0, 255} {
			if y.Proto == api.Udp {
				flags = 0
			}
			r := x.Packet(packet(t, y, flags))
			if id == 16 {
				comes(t, r, drops(node.Crowded))
				continue
			}
			id++
			comes(t, r, node.Result{Out: []node.Out{out(t, to, asked(id, y, flags))}})
			if x.Waiting() != int(id) {
				t.Errorf("%d wait, want %d", x.Waiting(), id)
			}
		}
	}
	counted(t, x, 0, 0, 0, 0, 0, 0, 0, 24)
	if len(x.Pins()) != 0 {
		t.Errorf("Pins = %v", x.Pins())
	}
	comes(t, hears(t, x, 1, told(letter.Answer{Id: 3, Why: letter.NoOne})), drops(node.NoBackend))
	comes(t, x.Packet(packet(t, all[0], 0)), node.Result{Out: []node.Out{out(t, 1, asked(17, all[0], 0))}}) // there is room for one again
	comes(t, x.Packet(packet(t, all[0], 0)), drops(node.Crowded))
	own := owned(t, 0, 1, 0, 1, 2)[0] // of its own ones none waits
	if r := x.Packet(packet(t, own, 0)); len(r.Frames) != 1 || x.Waiting() != 16 {
		t.Errorf("%v", r)
	}
	comes(t, x.Packet(nil), drops(node.Malformed))
}

// TestOwners: the owner is one of those that are not given up; a packet that waits, waits for the one that was asked.
func TestOwners(t *testing.T) {
	x := made(t, 0, conf(3))
	y := owned(t, 2, 1, 0, 1, 2)[0]
	to := 0
	if !slices.Contains(owned(t, 0, 40, 0, 1), y) {
		to = 1
	}
	comes(t, x.Packet(packet(t, y, 0)), node.Result{Out: []node.Out{out(t, 2, asked(1, y, 0))}})
	gone(t, x, 2)
	r := x.Packet(packet(t, y, 0))
	if to == 0 {
		comes(t, r, drops(node.NoBackend))
	} else {
		comes(t, r, node.Result{Out: []node.Out{out(t, 1, asked(2, y, 0))}})
	}
	comes(t, hears(t, x, 1, told(letter.Answer{Id: 1, Why: letter.NoRoom})), node.Result{})
	comes(t, hears(t, x, 2, told(letter.Answer{Id: 1, Why: letter.NoRoom})), drops(node.NoRoom))
	gone(t, x, 1) // all are its own now
	comes(t, x.Packet(packet(t, y, 0)), drops(node.NoBackend))
}

// TestPacketIsNotKept: whatever is written into it behind the call, what waits is as it was.
func TestPacketIsNotKept(t *testing.T) {
	x := made(t, 0, conf(2))
	y := owned(t, 1, 1, 0, 1)[0]
	b := packet(t, y, 0, 1, 2, 3)
	was := slices.Clone(b)
	x.Packet(b)
	clear(b)
	a := letter.Answer{Id: 1, Backend: 9, Gen: 4, Addr: four(10), Until: 8}
	comes(t, hears(t, x, 1, told(a)), node.Result{Frames: []node.Frame{frame(t, 0, 9, 4, four(10), y, was)}})
	b = packet(t, owned(t, 0, 1, 0, 1)[0], 0)
	was = slices.Clone(b)
	admin(t, x, add(2, four(10)))
	r := x.Packet(b)
	if !bytes.Equal(b, was) || len(r.Frames) != 1 {
		t.Error("a packet was written into")
	}
	want := slices.Clone(r.Frames[0].Data)
	clear(b)
	if !bytes.Equal(r.Frames[0].Data, want) {
		t.Error("a frame shares its packet's bytes")
	}
}

package node_test

import (
	"fmt"
	"math"
	"slices"
	"testing"

	"steelyard/api"
	"steelyard/geneve"
	"steelyard/hash"
	"steelyard/header"
	"steelyard/letter"
	"steelyard/life"
	"steelyard/node"
	"steelyard/owner"
	"steelyard/pool"
	"steelyard/tuple"
)

const ticks = api.MaxTicks

func four(b ...byte) api.Addr {
	var a api.Addr
	copy(a.B[:], b)
	return a
}

func six(b ...byte) api.Addr {
	a := four(b...)
	a.V6 = true
	return a
}

// tcp, tcp6, udp: tuples from that port.
func tcp(port int) api.Tuple {
	return api.Tuple{Src: four(10, 0, 0, 1), Dst: four(10, 0, 0, 2), Proto: api.Tcp, SrcPort: port, DstPort: 80}
}

func tcp6(port int) api.Tuple {
	x := tcp(port)
	x.Src, x.Dst = six(0xfd, 1), six(0xfd, 2)
	return x
}

func udp(port int) api.Tuple {
	x := tcp(port)
	x.Proto = api.Udp
	return x
}

// packet: one of a tuple, with flags, and data.
func packet(t testing.TB, x api.Tuple, flags int, data ...byte) []byte {
	t.Helper()
	b, e := tuple.Make(x, flags, data)
	if e != api.OK {
		t.Fatalf("Make(%v, %d): %d", x, flags, e)
	}
	return b
}

// number: that by which a tuple is found.
func number(t testing.TB, x api.Tuple) uint64 {
	t.Helper()
	h, e := hash.Flow(x)
	if e != api.OK {
		t.Fatalf("Flow(%v): %d", x, e)
	}
	return h
}

// owned: so many tuples that a replica owns, of those that are there.
func owned(t testing.TB, by, many int, live ...int) []api.Tuple {
	t.Helper()
	var l []api.Tuple
	for port := 1; len(l) < many; port++ {
		x := []api.Tuple{tcp(port), tcp6(port), udp(port)}[port%3]
		i, e := owner.Of(live, number(t, x))
		if e != api.OK {
			t.Fatalf("Of(%v): %d", live, e)
		}
		if i == by {
			l = append(l, x)
		}
	}
	return l
}

// conf: of so many replicas.
func conf(nodes int) node.Conf {
	return node.Conf{Nodes: nodes, Slots: 13, Flows: 20, Mtu: 1500}
}

// made: a replica that knows nothing.
func made(t testing.TB, me int, c node.Conf) *node.Node {
	t.Helper()
	x, e := node.New(me, c)
	if x == nil || e != api.OK {
		t.Fatalf("New(%d, %v) = %v, %d", me, c, x, e)
	}
	return x
}

// add, drain: commands.
func add(backend int, a api.Addr) api.Cmd {
	return api.Cmd{Kind: api.CmdAdd, Backend: backend, Addr: a, Weight: 1}
}

func drained(backend int) api.Cmd {
	return api.Cmd{Kind: api.CmdDrain, Backend: backend}
}

// admin: a command that goes.
func admin(t testing.TB, x *node.Node, c api.Cmd) node.Result {
	t.Helper()
	r, e := x.Admin(c)
	if e != api.OK {
		t.Fatalf("Admin(%v): %d", c, e)
	}
	return r
}

// wrote: a letter's bytes.
func wrote(t testing.TB, l letter.Letter) []byte {
	t.Helper()
	b, e := letter.Put(l)
	if e != api.OK {
		t.Fatalf("Put(%+v): %d", l, e)
	}
	return b
}

// updates, told: letters.
func updates(l ...pool.Update) letter.Letter {
	return letter.Letter{Kind: letter.Updates, Updates: l}
}

func told(a letter.Answer) letter.Letter {
	return letter.Letter{Kind: letter.Told, Told: a}
}

func asked(id int64, x api.Tuple, flags int) letter.Letter {
	return letter.Letter{Kind: letter.Ask, Ask: letter.Asked{Id: id, T: x, Flags: flags}}
}

// known: what is known of a backend at 10.1.0.backend.
func known(backend int, gen int64, is int) pool.Update {
	return pool.Update{Backend: backend, Rec: life.Rec{Gen: gen, Life: is, Spec: life.Spec{Stamp: 1, Addr: four(10, 1, 0, byte(backend)), Weight: 1}}}
}

// hears: a letter of another replica.
func hears(t testing.TB, x *node.Node, from int, l letter.Letter) node.Result {
	t.Helper()
	return x.Letter(from, wrote(t, l))
}

// out: what is sent.
func out(t testing.TB, to int, l letter.Letter) node.Out {
	t.Helper()
	return node.Out{To: to, Data: wrote(t, l)}
}

// frame: what goes from a replica to a backend at an address, with a packet within.
func frame(t testing.TB, me, backend int, gen int64, a api.Addr, x api.Tuple, b []byte) node.Frame {
	t.Helper()
	src := four(172, 16, 0, byte(me+1))
	if a.V6 {
		src = six(0xfd, 0, 0, 0, 0, 0, 0, 0, 0, 0, 0, 0, 0, 0, 0, byte(me+1))
	}
	g := make([]byte, 8)
	for i := range g {
		g[i] = byte(gen >> (56 - 8*i))
	}
	proto := 0x0800
	if x.Src.V6 {
		proto = 0x86dd
	}
	p := geneve.Path{Src: src, Dst: a, Port: 49152 + int(number(t, x)%16384), Ttl: 64, Mtu: 65535}
	data, e := geneve.Wrap(p, geneve.Tunnel{Proto: proto, Vni: 1, Opts: []geneve.Opt{{Class: 1, Type: 1, Data: g}}, Inner: b})
	if e != api.OK {
		t.Fatalf("Wrap: %d", e)
	}
	return node.Frame{Backend: backend, Gen: gen, T: x, Data: data}
}

// comes fails unless just that came of a step.
func comes(t testing.TB, r, want node.Result) {
	t.Helper()
	if got, wanted := fmt.Sprintf("%+v", r), fmt.Sprintf("%+v", want); got != wanted {
		t.Fatalf("what came of it is\n%s\nwant\n%s", got, wanted)
	}
}

// drops: a result of drops alone.
func drops(kinds ...int) node.Result {
	return node.Result{Drops: kinds}
}

// counted fails unless there were so many drops, in the order of their kinds.
func counted(t testing.TB, x *node.Node, want ...uint64) {
	t.Helper()
	c := x.Counts()
	for kind := range tuple.Kinds {
		n := uint64(0)
		if kind < len(want) {
			n = want[kind]
		}
		if c.Get(kind) != n {
			t.Fatalf("of the kind %d there were %d drops, want %d", kind, c.Get(kind), n)
		}
	}
}

// state: all that can be asked of a replica, but its counts.
func state(x *node.Node) string {
	var all []pool.Update
	clock := x.Pool().Clock()
	for backend, r := range x.Pool().All() {
		all = append(all, pool.Update{Backend: backend, Rec: r})
	}
	return fmt.Sprintf("%d %d %+v %v %v %+v %+v %d", x.Now(), clock, all, x.Table(), x.Live(), x.Pins(), x.Waits(), x.Waiting())
}

// tick: so many ticks, of which something may come.
func tick(x *node.Node, many int) {
	for range many {
		x.Tick()
	}
}

// icmp, fragment: packets of no flow.
func icmp(t testing.TB) []byte {
	t.Helper()
	b, e := header.Put(header.Ip{Src: four(10), Dst: four(11), Proto: 1, Ttl: 64, Data: []byte{8, 0, 0, 0}})
	if e != api.OK {
		t.Fatal("Put:", e)
	}
	return b
}

func fragment(t testing.TB) []byte {
	t.Helper()
	b := packet(t, tcp(1), api.Syn)
	b[6] |= 0x20 // more follows
	return summed(b)
}

// summed: a packet of four whose head has its sum anew.
func summed(b []byte) []byte {
	b[10], b[11] = 0, 0
	sum := 0
	for i := 0; i < 20; i += 2 {
		sum += int(b[i])<<8 | int(b[i+1])
	}
	for sum > 65535 {
		sum = sum%65536 + sum/65536
	}
	b[10], b[11] = ^byte(sum>>8), ^byte(sum)
	return b
}

// malformed: bytes that are no packets.
func malformed(t testing.TB) [][]byte {
	t.Helper()
	b := packet(t, tcp(1), api.Syn, 1, 2, 3)
	turned := func(i int) []byte {
		c := slices.Clone(b)
		c[i] ^= 1
		return c
	}
	six := packet(t, tcp6(1), api.Syn)
	return [][]byte{nil, {}, {0}, {0x50}, make([]byte, 100), b[:19], b[:len(b)-1], append(slices.Clone(b), 0), turned(10), turned(12), turned(20), turned(len(b) - 1), six[:39], six[:len(six)-1], append(slices.Clone(six), 0)}
}

// noReplicas: numbers of no replica of so many.
func noReplicas(nodes int) []int {
	return []int{math.MinInt, -65536, -1, nodes, nodes + 1, 16, 17, 256, 1 << 32, math.MaxInt}
}

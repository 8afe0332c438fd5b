package fleet_test

import (
	"fmt"
	"math/rand"
	"testing"

	"steelyard/api"
	"steelyard/fleet"
	"steelyard/hash"
	"steelyard/node"
	"steelyard/owner"
	"steelyard/pool"
	"steelyard/tuple"
)

func four(b ...byte) api.Addr {
	var a api.Addr
	copy(a.B[:], b)
	return a
}

func six(b ...byte) api.Addr {
	a := four(b...)
	a.V6 = true
	return a
}

// tcp, tcp6, udp: tuples from that port.
func tcp(port int) api.Tuple {
	return api.Tuple{Src: four(10, 0, 0, 1), Dst: four(10, 0, 0, 2), Proto: api.Tcp, SrcPort: port, DstPort: 80}
}

func tcp6(port int) api.Tuple {
	x := tcp(port)
	x.Src, x.Dst = six(0xfd, 1), six(0xfd, 2)
	return x
}

func udp(port int) api.Tuple {
	x := tcp(port)
	x.Proto = api.Udp
	return x
}

// packet: one of a tuple, with flags, and data.
func packet(t testing.TB, x api.Tuple, flags int, data ...byte) []byte {
	t.Helper()
	b, e := tuple.Make(x, flags, data)
	if e != api.OK {
		t.Fatalf("Make(%v, %d): %d", x, flags, e)
	}
	return b
}

// owned: a tuple that a replica owns, of so many that are all there.
func owned(t testing.TB, by, nodes int) api.Tuple {
	t.Helper()
	var live []int
	for i := range nodes {
		live = append(live, i)
	}
	for port := 1; ; port++ {
		h, e := hash.Flow(tcp(port))
		if e != api.OK {
			t.Fatalf("Flow: %d", e)
		}
		if i, _ := owner.Of(live, h); i == by {
			return tcp(port)
		}
	}
}

// conf: of so many replicas.
func conf(nodes int) node.Conf {
	return node.Conf{Nodes: nodes, Slots: 13, Flows: 20, Mtu: 1500}
}

// made: replicas that know nothing.
func made(t testing.TB, c node.Conf) *fleet.Fleet {
	t.Helper()
	f, e := fleet.New(c)
	if f == nil || e != api.OK {
		t.Fatalf("New(%v) = %v, %d", c, f, e)
	}
	return f
}

// comes, add, drained, voted: steps.
func comes(i int, b []byte) api.Event {
	return api.Event{Kind: api.EvPacket, Node: i, B: b}
}

func add(i, backend int, a api.Addr) api.Event {
	return api.Event{Kind: api.EvAdmin, Node: i, Cmd: api.Cmd{Kind: api.CmdAdd, Backend: backend, Addr: a, Weight: 1}}
}

func drained(i, backend int) api.Event {
	return api.Event{Kind: api.EvAdmin, Node: i, Cmd: api.Cmd{Kind: api.CmdDrain, Backend: backend}}
}

func voted(i, backend int, ok bool) api.Event {
	return api.Event{Kind: api.EvVote, Node: i, N: backend, Ok: ok}
}

// letter: a step of the letter of a number.
func letter(kind, n int) api.Event {
	return api.Event{Kind: kind, N: n}
}

// tick, round: steps of all.
func tick() api.Event {
	return api.Event{Kind: api.EvTick}
}

func round() api.Event {
	return api.Event{Kind: api.EvRound}
}

// does takes steps, one behind the other, and tells what is seen in all of them.
func does(f *fleet.Fleet, l ...api.Event) []fleet.Seen {
	var all []fleet.Seen
	for _, e := range l {
		all = append(all, f.Do(e)...)
	}
	return all
}

// settle: all letters arrive, the first one first; what is seen of it.
func settle(t testing.TB, f *fleet.Fleet) []fleet.Seen {
	t.Helper()
	var l []fleet.Seen
	for n := 0; f.Flight() > 0; n++ {
		if n > 20000 {
			t.Fatal("letters never end")
		}
		l = append(l, f.Do(letter(api.EvDeliver, 0))...)
	}
	return l
}

// sees fails unless just that is seen.
func sees(t testing.TB, l []fleet.Seen, want ...fleet.Seen) {
	t.Helper()
	if fmt.Sprintf("%+v", l) != fmt.Sprintf("%+v", want) {
		t.Fatalf("there is seen\n%+v\nwant\n%+v", l, want)
	}
}

// knows fails unless just these backends are known to a replica.
func knows(t testing.TB, f *fleet.Fleet, i int, want ...int) {
	t.Helper()
	var l []int
	for backend := range f.Node(i).Pool().All() {
		l = append(l, backend)
	}
	if fmt.Sprint(l) != fmt.Sprint(want) {
		t.Fatalf("%d knows %v, want %v", i, l, want)
	}
}

// state: all that can be asked of a replica.
func state(x *node.Node) string {
	var all []pool.Update
	clock := x.Pool().Clock()
	for backend, r := range x.Pool().All() {
		all = append(all, pool.Update{Backend: backend, Rec: r})
	}
	var counts []uint64
	for kind := range tuple.Kinds {
		counts = append(counts, x.Counts().Get(kind))
	}
	return fmt.Sprintf("%d %d %+v %v %v %+v %+v %d %v", x.Now(), clock, all, x.Table(), x.Live(), x.Pins(), x.Waits(), x.Waiting(), counts)
}

// one of some.
func one[T any](rnd *rand.Rand, l ...T) T {
	return l[rnd.Intn(len(l))]
}

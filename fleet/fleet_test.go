package fleet_test

import (
	"fmt"
	"math"
	"slices"
	"sync"
	"testing"

	"steelyard/api"
	"steelyard/fleet"
	"steelyard/node"
	"steelyard/pool"
)

// TestNew: of confs that can be, and of those that can't.
func TestNew(t *testing.T) {
	for _, c := range []node.Conf{
		{},
		{Nodes: 0, Slots: 7, Flows: 9, Mtu: 1500},
		{Nodes: -1, Slots: 7, Flows: 9, Mtu: 1500},
		{Nodes: 17, Slots: 7, Flows: 9, Mtu: 1500},
		{Nodes: math.MinInt, Slots: 7, Flows: 9, Mtu: 1500},
		{Nodes: math.MaxInt, Slots: 7, Flows: 9, Mtu: 1500},
		{Nodes: 3, Slots: 8, Flows: 9, Mtu: 1500},
		{Nodes: 3, Slots: 1, Flows: 9, Mtu: 1500},
		{Nodes: 3, Slots: 1031, Flows: 9, Mtu: 1500},
		{Nodes: 3, Slots: 7, Flows: 0, Mtu: 1500},
		{Nodes: 3, Slots: 7, Flows: 257, Mtu: 1500},
		{Nodes: 3, Slots: 7, Flows: 9, Mtu: 0},
		{Nodes: 3, Slots: 7, Flows: 9, Mtu: 65536},
	} {
		if f, e := fleet.New(c); f != nil || e != api.ErrArg {
			t.Errorf("New(%v) = %v, %d", c, f, e)
		}
	}
	for nodes := 1; nodes <= 16; nodes++ {
		for _, c := range []node.Conf{{Nodes: nodes, Slots: 2, Flows: 1, Mtu: 1}, {Nodes: nodes, Slots: 1021, Flows: 256, Mtu: 65535}} {
			f := made(t, c)
			if f.Nodes() != nodes || f.Flight() != 0 || f.Now() != 0 || f.Steps() != 0 || len(f.Issued()) != 0 {
				t.Errorf("%d, %d, %d, %d, %v", f.Nodes(), f.Flight(), f.Now(), f.Steps(), f.Issued())
			}
			for i := range nodes {
				x, e := node.New(i, c)
				if e != api.OK || state(f.Node(i)) != state(x) {
					t.Errorf("%d of %v: %s", i, c, state(f.Node(i)))
				}
			}
		}
	}
}

// TestNode: it is the replica itself, each one by its number.
func TestNode(t *testing.T) {
	f := made(t, conf(3))
	for i := range 3 {
		if f.Node(i) == nil || f.Node(i) != f.Node(i) || f.Node(i) == f.Node((i+1)%3) {
			t.Errorf("Node(%d) = %p", i, f.Node(i))
		}
		f.Do(add(i, i, four(10)))
		knows(t, f, i, i)
	}
	for _, i := range []int{math.MinInt, -1, 3, 16, 256, 1 << 32, math.MaxInt} {
		if x := f.Node(i); x != nil {
			t.Errorf("Node(%d) = %v", i, x)
		}
	}
}

// TestNil: of nil, and of what New did not make, there is nothing, and nothing happens.
func TestNil(t *testing.T) {
	for _, f := range []*fleet.Fleet{nil, {}} {
		for kind := -1; kind <= 11; kind++ {
			if l := f.Do(api.Event{Kind: kind, N: 1, B: []byte{1}}); len(l) != 0 {
				t.Errorf("Do(%d) = %v", kind, l)
			}
		}
		if f.Flight() != 0 || f.Now() != 0 || f.Node(0) != nil || f.Nodes() != 0 || len(f.Issued()) != 0 {
			t.Errorf("%d, %d, %v, %d, %v", f.Flight(), f.Now(), f.Node(0), f.Nodes(), f.Issued())
		}
	}
	var f *fleet.Fleet
	if f.Steps() != 0 || f.Close() || f.Close() {
		t.Errorf("Steps = %d, or it was closed", f.Steps())
	}
}

// TestExample is the document's: a backend, a round, a packet at one that is not its owner.
func TestExample(t *testing.T) {
	f := made(t, conf(3))
	to := four(10, 1, 0, 2)
	sees(t, does(f, add(0, 2, to), round()))
	for i := range 3 {
		if x := f.Node(i); x.Pool().Get(2).Spec.Addr != to || !slices.Equal(x.Table(), slices.Repeat([]int{2}, 13)) {
			t.Fatal(state(x))
		}
	}
	for by := range 3 {
		y := owned(t, by, 3)
		b := packet(t, y, api.Syn)
		l := does(f, comes(1, b), round())
		if len(l) != 2 || l[0].Kind != fleet.Granted || l[0].Node != by || l[1].Kind != fleet.Framed || l[1].Node != 1 {
			t.Fatalf("of %d: %+v", by, l)
		}
		if g := l[0].Grant; g.From != 1 || g.T != y || g.Flags != api.Syn || g.Backend != 2 || g.Gen != 1 || !g.New {
			t.Errorf("%+v", g)
		}
		if y := l[1].Frame; y.T != l[0].Grant.T || y.Backend != 2 || y.Gen != 1 {
			t.Errorf("%+v", y)
		}
	}
}

// TestEachKind: each kind of step does what it says to the replica that it says, as if that one was told so itself.
func TestEachKind(t *testing.T) {
	c := conf(4)
	syn, own := packet(t, owned(t, 1, 4), api.Syn), packet(t, owned(t, 2, 4), api.Syn)
	steps := []struct {
		e  api.Event
		do func(x *node.Node) node.Result
	}{
		{add(2, 5, six(0xfd)), func(x *node.Node) node.Result {
			r, _ := x.Admin(api.Cmd{Kind: api.CmdAdd, Backend: 5, Addr: six(0xfd), Weight: 1})
			return r
		}},
		{add(2, 32, four(9)), func(x *node.Node) node.Result {
			r, _ := x.Admin(api.Cmd{Kind: api.CmdAdd, Backend: 32, Addr: four(9), Weight: 1})
			return r
		}},
		{voted(2, 5, false), func(x *node.Node) node.Result { r, _ := x.Vote(5, false); return r }},
		{voted(2, 5, true), func(x *node.Node) node.Result { r, _ := x.Vote(5, true); return r }},
		{voted(2, 6, true), func(x *node.Node) node.Result { r, _ := x.Vote(6, true); return r }},
		{comes(2, own), func(x *node.Node) node.Result { return x.Packet(own) }},
		{comes(2, syn), func(x *node.Node) node.Result { return x.Packet(syn) }},
		{comes(2, nil), func(x *node.Node) node.Result { return x.Packet(nil) }},
		{api.Event{Kind: api.EvBytes, Node: 2, N: 1, B: []byte{1, 2, 3}}, func(x *node.Node) node.Result { return x.Letter(1, []byte{1, 2, 3}) }},
		{api.Event{Kind: api.EvDraw, Node: 2, N: 7}, func(x *node.Node) node.Result { x.Draw(7); return node.Result{} }},
		{drained(2, 5), func(x *node.Node) node.Result {
			r, _ := x.Admin(api.Cmd{Kind: api.CmdDrain, Backend: 5})
			return r
		}},
	}
	f := made(t, c)
	x, _ := node.New(2, c)
	flight := 0
	var issued []pool.Update
	for i, s := range steps {
		l := f.Do(s.e)
		r := s.do(x)
		sees(t, l, plainSeen(2, x.Now(), r)...)
		flight += len(r.Out)
		issued = append(issued, r.Made...)
		if state(f.Node(2)) != state(x) || f.Flight() != flight || f.Steps() != int64(i+1) || fmt.Sprint(f.Issued()) != fmt.Sprint(issued) {
			t.Fatalf("behind the step %d: %s, want %s; %d letters, want %d; issued %v, want %v", i, state(f.Node(2)), state(x), f.Flight(), flight, f.Issued(), issued)
		}
	}
}

// TestLetterOfAnother: bytes that are a letter come from the replica that the step says, or are bad.
func TestLetterOfAnother(t *testing.T) {
	x, _ := node.New(1, conf(3))
	r, _ := x.Admin(api.Cmd{Kind: api.CmdAdd, Backend: 4, Addr: four(10), Weight: 1})
	b := r.Out[0].Data
	f := made(t, conf(3))
	for _, from := range []int{-1, 0, 3, 16, math.MinInt, math.MaxInt} {
		sees(t, f.Do(api.Event{Kind: api.EvBytes, Node: 0, N: from, B: b}), fleet.Seen{Kind: fleet.Dropped, Drop: node.Bad})
		knows(t, f, 0)
	}
	was := slices.Clone(b)
	sees(t, f.Do(api.Event{Kind: api.EvBytes, Node: 0, N: 1, B: b}))
	if !slices.Equal(b, was) {
		t.Error("bytes were written into")
	}
	clear(b)
	knows(t, f, 0, 4)
	knows(t, f, 2)
	if f.Flight() != 0 || len(f.Issued()) != 0 {
		t.Errorf("%d letters, issued %v: nobody of this fleet made it", f.Flight(), f.Issued())
	}
}

// TestDraw: the replica of the step pings the one that is drawn, and, as no answer comes, gives it up first; nobody else does so.
func TestDraw(t *testing.T) {
	for n, drawn := range map[int]int{0: 0, 1: 1, 2: 2, 5: 2, -1: 2, math.MinInt: 1, math.MaxInt: 1} { // 2^63 has the rest 2 by 3
		f := made(t, conf(4))
		sees(t, f.Do(api.Event{Kind: api.EvDraw, Node: 3, N: n}))
		for range 50 {
			f.Do(tick())
			for f.Flight() > 0 {
				f.Do(letter(api.EvDrop, 0))
			}
		}
		for i, up := range []int{1, 0, 0, drawn} { // the first ones of those that have nothing drawn
			live := slices.DeleteFunc([]int{0, 1, 2, 3}, func(k int) bool { return k == up })
			if !slices.Equal(f.Node(i).Live(), live) {
				t.Errorf("drawn %d: Live of %d = %v, want %v", n, i, f.Node(i).Live(), live)
			}
		}
	}
}

// TestNoReplica: of a step that has a replica nothing happens, if there is none; it is counted.
func TestNoReplica(t *testing.T) {
	f := made(t, conf(3))
	does(f, add(0, 2, four(10)), round())
	b := packet(t, tcp(1), api.Syn)
	was := all(f)
	steps := f.Steps()
	for _, i := range []int{math.MinInt, -65536, -1, 3, 4, 15, 16, 256, 1 << 32, math.MaxInt} {
		for _, e := range []api.Event{comes(i, b), comes(i, nil), add(i, 3, four(10)), drained(i, 2), voted(i, 2, false),
			{Kind: api.EvDraw, Node: i, N: 5}, {Kind: api.EvBytes, Node: i, N: 1, B: b}} {
			sees(t, f.Do(e))
			steps++
			if all(f) != was || f.Steps() != steps {
				t.Fatalf("%+v: %s, %d steps", e, all(f), f.Steps())
			}
		}
	}
}

// TestNoKind: nothing is seen of a kind that is none, but it is counted.
func TestNoKind(t *testing.T) {
	f := made(t, conf(2))
	does(f, add(0, 2, four(10)))
	was := all(f)
	for i, kind := range []int{math.MinInt, -1, 0, 11, 12, 256, 257, 1<<32 + 1, math.MaxInt} {
		sees(t, f.Do(api.Event{Kind: kind, Node: 0, N: 0, B: packet(t, tcp(1), api.Syn), Cmd: api.Cmd{Kind: api.CmdAdd, Backend: 1, Weight: 1}}))
		if all(f) != was || f.Steps() != int64(i+2) {
			t.Fatalf("%d: %s, %d steps", kind, all(f), f.Steps())
		}
	}
}

// all: what can be asked of a fleet, but how many steps there were.
func all(f *fleet.Fleet) string {
	s := fmt.Sprintf("%d %d %d %+v", f.Flight(), f.Now(), f.Nodes(), f.Issued())
	for i := range f.Nodes() {
		s += "\n" + state(f.Node(i))
	}
	return s
}

// TestSeenInOrder: grants, frames, drops, released ones, each at its replica and the time of its clock.
func TestSeenInOrder(t *testing.T) {
	c := conf(2)
	c.Mtu = 100
	f := made(t, c)
	does(f, add(0, 2, four(10, 1, 0, 2)), letter(api.EvDeliver, 0), tick(), tick())
	own := owned(t, 1, 2)
	b := packet(t, own, api.Syn)
	l := f.Do(comes(1, b))
	if len(l) != 2 || l[0].Kind != fleet.Granted || l[1].Kind != fleet.Framed || l[0].Now != 2 || l[1].Now != 2 || l[0].Node != 1 || l[1].Node != 1 {
		t.Fatalf("%+v", l)
	}
	grant := node.Grant{From: 1, T: own, Flags: api.Syn, Backend: 2, Gen: 1, Until: 2, New: true}
	frame := node.Frame{Backend: 2, Gen: 1, T: own, Data: l[1].Frame.Data}
	sees(t, l, fleet.Seen{Kind: fleet.Granted, Node: 1, Now: 2, Grant: grant}, fleet.Seen{Kind: fleet.Framed, Node: 1, Now: 2, Frame: frame})
	grant.Flags, grant.New = api.Rst, false
	l = f.Do(comes(1, packet(t, own, api.Rst, make([]byte, 100)...)))
	sees(t, l, fleet.Seen{Kind: fleet.Granted, Node: 1, Now: 2, Grant: grant}, fleet.Seen{Kind: fleet.Dropped, Node: 1, Now: 2, Drop: node.TooLong})
	sees(t, does(f, comes(1, packet(t, owned(t, 0, 2), api.Syn)), letter(api.EvDrop, 0)))
	does(f, tick(), tick(), tick(), tick(), tick(), tick(), drained(0, 2)) // 8
	settle(t, f)
	sees(t, f.Do(tick()))
	settle(t, f)
	sees(t, f.Do(tick()), // 10: what has waited for eight ticks, and the backend that both have no flow to
		fleet.Seen{Kind: fleet.Freed, Node: 0, Now: 10, Gone: node.Gone{Backend: 2, Gen: 1}},
		fleet.Seen{Kind: fleet.Dropped, Node: 1, Now: 10, Drop: node.Late},
		fleet.Seen{Kind: fleet.Freed, Node: 1, Now: 10, Gone: node.Gone{Backend: 2, Gen: 1}})
	if f.Now() != 10 || f.Node(0).Now() != 10 || f.Node(1).Now() != 10 {
		t.Errorf("Now = %d", f.Now())
	}
}

// TestIssued: all that was made, by whomever, in order; what is written into it changes nothing.
func TestIssued(t *testing.T) {
	f := made(t, conf(3))
	does(f, add(1, 7, four(10)), add(0, 3, six(0xfd)), voted(1, 7, false), drained(0, 3), add(2, 32, four(1)), drained(2, 9))
	l := f.Issued()
	if len(l) != 4 {
		t.Fatalf("issued %v", l)
	}
	for i, want := range []struct{ backend, life, votes int }{{7, 1, 0}, {3, 1, 0}, {7, 1, 2}, {3, 2, 0}} {
		if u := l[i]; u.Backend != want.backend || u.Rec.Life != want.life || len(u.Rec.Votes) != want.votes || u.Rec.Gen != 1 {
			t.Errorf("issued at %d: %+v", i, u)
		}
	}
	was := fmt.Sprint(l)
	states := all(f)
	l[2].Rec.Votes[1].Stamp = 99
	l[0].Backend = 31
	l = append(l[:1], l[2:]...)
	if got := f.Issued(); fmt.Sprint(got) != was || all(f) != states {
		t.Errorf("issued %v, was %s", got, was)
	}
	for range 4 { // ticks by which it is said that no flow is there, and it is released
		f.Do(tick())
		settle(t, f)
	}
	done, freed := 0, 0
	for _, u := range f.Issued()[4:] {
		if u.Backend != 3 || u.Rec.Gen != 1 {
			t.Errorf("issued %+v", u)
		}
		if u.Rec.Life == api.Draining {
			done++
		} else {
			freed++
		}
	}
	if done != 3 || freed != 3 { // each replica says so, and finds that all have said so
		t.Errorf("issued %v", f.Issued())
	}
}

// TestNotKept: bytes of a step are not kept, nor written into; frames share no memory.
func TestNotKept(t *testing.T) {
	f := made(t, conf(2))
	does(f, add(0, 2, four(10, 1, 0, 2)), round())
	y := owned(t, 1, 2)
	b := packet(t, y, api.Syn, 1, 2, 3)
	was := slices.Clone(b)
	f.Do(comes(0, b))
	if !slices.Equal(b, was) {
		t.Error("bytes were written into")
	}
	clear(b)
	l := settle(t, f)
	if len(l) != 2 || !slices.Equal(l[1].Frame.Data[len(l[1].Frame.Data)-len(was):], was) {
		t.Fatalf("%v", l)
	}
	copy(b, was)
	data := l[1].Frame.Data
	want := slices.Clone(data)
	f.Do(letter(api.EvDouble, 0))
	f.Do(comes(1, b))
	l = f.Do(comes(1, b))
	clear(l[1].Frame.Data)
	if !slices.Equal(data, want) {
		t.Error("two frames share memory")
	}
	l = f.Do(comes(1, b))
	if tail := l[1].Frame.Data; !slices.Equal(tail[len(tail)-len(was):], was) {
		t.Error("a frame shares memory with an earlier one")
	}
}

// TestClose: true once; from then on nothing happens, but steps are counted, and all can be asked still.
func TestClose(t *testing.T) {
	f := made(t, conf(2))
	does(f, add(0, 2, four(10)), add(1, 3, four(10)), tick())
	if !f.Close() || f.Close() || f.Close() {
		t.Fatal("it was not closed just once")
	}
	was := all(f)
	steps := f.Steps()
	for kind := -1; kind <= 12; kind++ {
		sees(t, f.Do(api.Event{Kind: kind, Node: 0, N: 2, B: packet(t, tcp(1), api.Syn), Cmd: api.Cmd{Kind: api.CmdAdd, Backend: 2, Weight: 1}}))
		steps++
		if all(f) != was || f.Steps() != steps {
			t.Fatalf("%d: %s, %d steps; want %s", kind, all(f), f.Steps(), was)
		}
	}
	if f.Close() || f.Flight() != 2 || f.Now() != 1 || len(f.Issued()) != 2 {
		t.Errorf("%d letters at %d, issued %v", f.Flight(), f.Now(), f.Issued())
	}
	if g := (&fleet.Fleet{}); !g.Close() || g.Close() {
		t.Error("one of no replicas was not closed just once")
	}
}

// TestStepsAreAskedByOthers: while steps are done; of all that close at once one is the first.
func TestStepsAreAskedByOthers(t *testing.T) {
	f := made(t, conf(2))
	var w sync.WaitGroup
	for range 4 {
		w.Go(func() {
			for last := int64(0); last < 500; {
				n := f.Steps()
				if n < last || n > 500 {
					t.Errorf("Steps = %d behind %d", n, last)
					return
				}
				last = n
			}
		})
	}
	for range 500 {
		f.Do(tick())
	}
	w.Wait()
	first := make(chan bool, 8)
	for range 8 {
		w.Go(func() { first <- f.Close() })
	}
	w.Wait()
	n := 0
	for range 8 {
		if <-first {
			n++
		}
	}
	if n != 1 {
		t.Errorf("%d closed it", n)
	}
}

// TestSame: what comes of a script hangs on it alone.
func TestSame(t *testing.T) {
	script := []api.Event{add(0, 2, four(10)), add(1, 3, four(11)), round(), comes(2, packet(t, tcp(7), api.Syn)), letter(api.EvDouble, 0), round(), drained(1, 2), drained(1, 3)}
	for range 100 {
		script = append(script, round())
	}
	f, g := made(t, conf(3)), made(t, conf(3))
	a, b := does(f, script...), does(g, script...)
	sees(t, a, b...)
	if all(f) != all(g) || f.Steps() != int64(len(script)) {
		t.Errorf("%s, and %s", all(f), all(g))
	}
}

package fleet_test

import (
	"bytes"
	"fmt"
	"math"
	"math/rand"
	"slices"
	"testing"

	"steelyard/api"
	"steelyard/fleet"
	"steelyard/flow"
	"steelyard/geneve"
	"steelyard/life"
	"steelyard/node"
	"steelyard/pool"
	"steelyard/tuple"
)

// of is a backend of a Gen.
type of struct {
	backend int
	gen     int64
}

// owns is a tuple of an owner; pin is a flow, and where its packets go.
type owns struct {
	by int
	t  api.Tuple
}

type pin struct {
	f flow.Flow
	of
}

// watch takes down what is seen of a fleet, as far as it hangs on flows.
type watch struct {
	pins            map[owns]pin
	freed           map[of]bool
	grants, frames  int
	dropped         []map[int]uint64 // of each replica, by kinds
	released, again int              // how many released ones were seen: for the first time, and again
}

func newWatch(nodes int) *watch {
	w := &watch{pins: map[owns]pin{}, freed: map[of]bool{}}
	for range nodes {
		w.dropped = append(w.dropped, map[int]uint64{})
	}
	return w
}

// see takes down a thing, and fails where a backend is released to which a flow lives, or is used behind that: P23.2.
func (w *watch) see(t testing.TB, s fleet.Seen) {
	t.Helper()
	switch s.Kind {
	case fleet.Granted:
		w.grants++
		w.granted(t, s)
	case fleet.Framed:
		w.frames++
		if w.freed[of{s.Frame.Backend, s.Frame.Gen}] {
			t.Fatalf("a frame to one that is released: %+v", s)
		}
	case fleet.Dropped:
		w.dropped[s.Node][s.Drop]++
	case fleet.Freed:
		w.gone(t, s)
	default:
		t.Fatalf("there is seen %+v", s)
	}
}

func (w *watch) granted(t testing.TB, s fleet.Seen) {
	t.Helper()
	g := s.Grant
	at, to := owns{s.Node, g.T}, of{g.Backend, g.Gen}
	if w.freed[to] {
		t.Fatalf("a grant of one that is released: %+v", s)
	}
	was := w.pins[at]
	lives := flow.Live(was.f, s.Now)
	if g.New == lives || lives && was.of != to {
		t.Fatalf("%+v, of a flow %+v", s, was)
	}
	f, e := flow.Begin(g.T.Proto, g.Flags, s.Now)
	if lives {
		f, e = flow.Step(was.f, g.Flags, s.Now)
	}
	if e != api.OK {
		t.Fatalf("%+v, of a flow %+v: %d", s, was, e)
	}
	w.pins[at] = pin{f, to}
}

func (w *watch) gone(t testing.TB, s fleet.Seen) {
	t.Helper()
	to := of{s.Gone.Backend, s.Gone.Gen}
	for at, p := range w.pins {
		if p.of == to && flow.Live(p.f, s.Now) {
			t.Fatalf("%+v, where %v has %+v", s, at, p)
		}
	}
	if w.freed[to] {
		w.again++
	} else {
		w.released++
	}
	w.freed[to] = true
}

// known fails unless what each replica knows is what the issued things that are within it make, joined, and its table is that of it, and its drops are counted: P23.3, and the counts of P3.
func (w *watch) known(t testing.TB, f *fleet.Fleet, slots int) {
	t.Helper()
	issued := f.Issued()
	for i := range f.Nodes() {
		x := f.Node(i)
		for backend, r := range x.Pool().All() {
			var some life.Rec
			for _, u := range issued {
				if u.Backend == backend && life.Within(u.Rec, r) {
					some, _ = life.Join(some, u.Rec)
				}
			}
			if !life.Same(some, r) {
				t.Fatalf("%d knows of %d %+v, of which was issued %+v", i, backend, r, some)
			}
		}
		if table, _ := x.Pool().Table(slots); !slices.Equal(x.Table(), table) {
			t.Fatalf("Table of %d = %v, of what it knows %v", i, x.Table(), table)
		}
		for kind := range tuple.Kinds {
			if x.Counts().Get(kind) != w.dropped[i][kind] {
				t.Fatalf("of the kind %d %d counted %d, %d were seen", kind, i, x.Counts().Get(kind), w.dropped[i][kind])
			}
		}
	}
}

// outcome fails unless all packets that came to a replica, and those that waited, had one end each, or wait: P3.
func outcome(t testing.TB, f *fleet.Fleet, e api.Event, waited []int, l []fleet.Seen) {
	t.Helper()
	ends := make([]int, f.Nodes())
	for _, s := range l {
		if s.Kind == fleet.Framed || s.Kind == fleet.Dropped && s.Drop != node.Bad {
			ends[s.Node]++
		}
	}
	for i, n := range ends {
		came := 0
		if e.Kind == api.EvPacket && e.Node == i {
			came = 1
		}
		if n+f.Node(i).Waiting() != waited[i]+came {
			t.Fatalf("%+v: at %d %d waited, %d came; %d ends, %d wait: %+v", e, i, waited[i], came, n, f.Node(i).Waiting(), l)
		}
	}
}

// waiting: how many packets wait at each replica.
func waiting(f *fleet.Fleet) []int {
	var l []int
	for i := range f.Nodes() {
		l = append(l, f.Node(i).Waiting())
	}
	return l
}

// TestWhateverIsLost is P23.2 and P23.3, and P1, P3 and P5 of the fleet: letters lost, doubled, late, any commands, votes and draws.
func TestWhateverIsLost(t *testing.T) {
	released, again, frames := 0, 0, 0
	for seed := range int64(120) {
		c := chance{rand.New(rand.NewSource(seed)), 1 + int(seed)%5}
		conf := c.someConf()
		f, w := made(t, conf), newWatch(c.nodes)
		in := []int{2, 4, 8, 12}[seed/5%4]
		for n := range 900 {
			e := c.any(t, in)
			waited := waiting(f)
			l := f.Do(e)
			for _, s := range l {
				w.see(t, s)
			}
			outcome(t, f, e, waited, l)
			if n%60 == 0 {
				w.known(t, f, conf.Slots)
			}
		}
		w.known(t, f, conf.Slots)
		released, again, frames = released+w.released, again+w.again, frames+w.frames
	}
	if released < 100 || again < 50 || frames < 3000 {
		t.Errorf("%d were released, %d again, %d frames sent: this told too little", released, again, frames)
	}
}

// TestFramesAsTheyWere: a frame, taken out, has a packet as it came, and goes where that Gen of its backend was, to nobody who is known as released: P3.
func TestFramesAsTheyWere(t *testing.T) {
	frames := 0
	for seed := range int64(40) {
		c := chance{rand.New(rand.NewSource(seed)), 1 + int(seed)%4}
		f := made(t, c.someConf())
		came := map[string]int{} // packets at a replica that had no frame yet, but for dropped ones
		for range 600 {
			e := c.any(t, 7)
			if e.Kind == api.EvPacket {
				came[fmt.Sprintf("%d %x", e.Node, e.B)]++
			}
			for _, s := range f.Do(e) {
				if s.Kind != fleet.Framed {
					continue
				}
				frames++
				p, in, e := geneve.Unwrap(s.Frame.Data)
				key := fmt.Sprintf("%d %x", s.Node, in.Inner)
				if e != api.OK || came[key] == 0 || p.Src != node.Home(s.Node, p.Dst.V6) {
					t.Fatalf("%+v: %d, of %d packets", s, e, came[key])
				}
				came[key]--
				x := f.Node(s.Node).Pool().Get(s.Frame.Backend)
				if x.Gen > s.Frame.Gen || x.Gen == s.Frame.Gen && x.Life == api.Released {
					t.Fatalf("%+v, of which is known %+v", s, x)
				}
				if !slices.ContainsFunc(f.Issued(), func(u pool.Update) bool {
					return u.Backend == s.Frame.Backend && u.Rec.Gen == s.Frame.Gen && u.Rec.Spec.Addr == p.Dst
				}) {
					t.Fatalf("%+v goes to %v, which nobody issued", s, p.Dst)
				}
			}
		}
	}
	if frames < 1000 {
		t.Errorf("%d frames: this told too little", frames)
	}
}

// rounds are enough for so many replicas.
func rounds(nodes int) int {
	return 60*nodes + 400
}

// met fails unless all replicas know the same: what all that was issued makes, joined; have the same table; are there for all; and none is draining.
func met(t testing.TB, f *fleet.Fleet) {
	t.Helper()
	want, _ := pool.New(0, f.Nodes())
	for _, u := range f.Issued() {
		if _, e := want.Merge(u); e != api.OK {
			t.Fatalf("issued %+v: %d", u, e)
		}
	}
	for i := range f.Nodes() {
		x := f.Node(i)
		if !x.Pool().Same(want) || !slices.Equal(x.Table(), f.Node(0).Table()) || len(x.Live()) != f.Nodes() || len(x.Waits()) > 0 {
			t.Fatalf("%d of %d: %s", i, f.Nodes(), state(x))
		}
		for _, r := range x.Pool().All() {
			if r.Life == api.Draining {
				t.Fatalf("%d of %d: %s", i, f.Nodes(), state(x))
			}
		}
	}
	if f.Flight() != 0 {
		t.Fatalf("%d letters are on their way", f.Flight())
	}
}

// TestTheyMeet is P23.4 (P2): behind some rounds all is the same, whatever was lost in a script of 60 steps.
func TestTheyMeet(t *testing.T) {
	for seed := range int64(32) {
		c := chance{rand.New(rand.NewSource(seed)), 1 + int(seed)%4}
		conf := c.someConf()
		f := made(t, conf)
		for range 60 {
			e := c.any(t, 2+int(seed)%5)
			if seed/4%3 == 0 && e.Kind == api.EvDeliver { // nearly nothing arrives
				e.Kind = api.EvDrop
			}
			if e.Kind == api.EvPacket && c.Intn(2) == 0 {
				e = c.admin()
			}
			f.Do(e)
		}
		for range rounds(c.nodes) {
			f.Do(round())
		}
		met(t, f)
	}
}

// TestTheyMeetAgain: replicas that had given each other up: all letters of 50 ticks are lost.
func TestTheyMeetAgain(t *testing.T) {
	for nodes := 2; nodes <= 4; nodes++ {
		f := made(t, conf(nodes))
		for i := range nodes {
			f.Do(add(i, i, four(10, byte(i))))
		}
		for range 50 {
			f.Do(tick())
			for f.Flight() > 0 {
				f.Do(letter(api.EvDrop, 0))
			}
		}
		for i := range nodes {
			f.Do(drained(i, i))
		}
		for range rounds(nodes) {
			f.Do(round())
		}
		met(t, f)
		for backend := range nodes {
			if r := f.Node(0).Pool().Get(backend); r.Life != api.Released {
				t.Errorf("of %d is known %+v", backend, r)
			}
		}
	}
}

// TestOneBackend is P23.5 (P4): where all letters arrive ahead of the next step, each packet of a flow that lives gets one frame to the backend of its first one, at whichever replica it comes, whatever commands and votes there are.
func TestOneBackend(t *testing.T) {
	kept := 0
	for seed := range int64(24) {
		c := chance{rand.New(rand.NewSource(seed)), 1 + int(seed)%4}
		conf := conf(c.nodes)
		conf.Flows = 256
		f := made(t, conf)
		pins := map[api.Tuple]pin{}
		for range 400 {
			e := tick()
			switch n := c.Intn(100); {
			case n < 60:
				e = comes(c.Intn(c.nodes), c.bytes(t))
			case n < 75:
				e = c.admin()
			case n < 85:
				e = voted(c.Intn(c.nodes), c.Intn(4), c.Intn(2) == 0)
			}
			l := append(f.Do(e), settle(t, f)...)
			l = slices.DeleteFunc(l, func(s fleet.Seen) bool { return s.Kind != fleet.Framed })
			seen, err := tuple.Of(e.B)
			if e.Kind != api.EvPacket || err != api.OK {
				if len(l) > 0 {
					t.Fatalf("%+v: %+v", e, l)
				}
				continue
			}
			kept += goes(t, f, pins, seen, e.Node, l)
		}
	}
	if kept < 500 {
		t.Errorf("%d packets of flows that live: this told too little", kept)
	}
}

// goes fails unless the frames of a packet are as its flow says; it answers how many were of one that lives.
func goes(t testing.TB, f *fleet.Fleet, pins map[api.Tuple]pin, seen tuple.Seen, at int, l []fleet.Seen) int {
	t.Helper()
	if len(l) > 1 || len(l) == 1 && (l[0].Node != at || l[0].Frame.T != seen.T) {
		t.Fatalf("a packet of %v at %d: %+v", seen.T, at, l)
	}
	was, now := pins[seen.T], f.Now()
	if flow.Live(was.f, now) {
		if len(l) != 1 || (of{l[0].Frame.Backend, l[0].Frame.Gen}) != was.of {
			t.Fatalf("at %d: of a flow %+v there goes %+v", now, was, l)
		}
		was.f, _ = flow.Step(was.f, seen.Flags, now)
		pins[seen.T] = was
		return 1
	}
	begun, e := flow.Begin(seen.T.Proto, seen.Flags, now)
	if len(l) == 1 && e != api.OK {
		t.Fatalf("at %d: of no flow there goes %+v: %d", now, l, e)
	}
	if len(l) == 1 {
		pins[seen.T] = pin{begun, of{l[0].Frame.Backend, l[0].Frame.Gen}}
	}
	return 0
}

// tells fails unless of a packet just one frame comes, to a backend at an address, from a replica; all letters arrive.
func tells(t testing.TB, f *fleet.Fleet, at int, b []byte, backend int, to api.Addr) {
	t.Helper()
	l := append(f.Do(comes(at, b)), settle(t, f)...)
	l = slices.DeleteFunc(l, func(s fleet.Seen) bool { return s.Kind == fleet.Granted })
	if len(l) != 1 || l[0].Kind != fleet.Framed || l[0].Node != at || l[0].Frame.Backend != backend {
		t.Fatalf("%+v", l)
	}
	p, in, e := geneve.Unwrap(l[0].Frame.Data)
	if e != api.OK || p.Src != four(172, 16, 0, byte(at+1)) || p.Dst != to || !bytes.Equal(in.Inner, b) {
		t.Fatalf("%v, %v, %d", p, in, e)
	}
}

// drops fails unless just one packet is dropped, of a kind, at a replica.
func drops(t testing.TB, f *fleet.Fleet, l []fleet.Seen, at, kind int) {
	t.Helper()
	sees(t, l, fleet.Seen{Kind: fleet.Dropped, Node: at, Now: f.Now(), Drop: kind})
}

// table fails unless all replicas have that backend in each slot.
func table(t testing.TB, f *fleet.Fleet, backend int) {
	t.Helper()
	for i := range f.Nodes() {
		if x := f.Node(i); !slices.Equal(x.Table(), slices.Repeat([]int{backend}, 13)) {
			t.Fatalf("%d: %s", i, state(x))
		}
	}
}

// TestTenExamples is what the document's examples of the whole say.
func TestTenExamples(t *testing.T) {
	f := made(t, conf(3))
	two := four(10, 1, 0, 2)
	sees(t, does(f, add(0, 2, two), round())) // 1
	table(t, f, 2)
	y := owned(t, 0, 3)
	sees(t, f.Do(comes(1, packet(t, y, api.Syn)))) // 2: it waits
	l := f.Do(letter(api.EvDeliver, 0))
	if len(l) != 1 || l[0].Kind != fleet.Granted || l[0].Node != 0 {
		t.Fatalf("%+v", l)
	}
	l = f.Do(letter(api.EvDeliver, 0))
	if len(l) != 1 || l[0].Kind != fleet.Framed || l[0].Node != 1 {
		t.Fatalf("%+v", l)
	}
	tells(t, f, 1, packet(t, y, api.Ack), 2, two)
	tells(t, f, 2, packet(t, y, api.Ack), 2, two) // 3
	e := add(1, 5, four(10, 1, 0, 5))             // 4
	e.Cmd.Weight = math.Inf(1)
	does(f, e, round())
	table(t, f, 5)
	tells(t, f, 0, packet(t, y, api.Ack), 2, two)
	e.Cmd.Weight = math.NaN()
	does(f, e, round())
	table(t, f, 2)
	does(f, drained(2, 2), round()) // 5
	drops(t, f, append(f.Do(comes(0, packet(t, owned(t, 1, 3), api.Syn))), settle(t, f)...), 0, node.NoBackend)
	tells(t, f, 0, packet(t, y, api.Fin), 2, two)
	tells(t, f, 1, packet(t, y, api.Ack), 2, two)
	over := f.Now()
	for freed := 0; freed < 3; {
		for _, s := range f.Do(round()) {
			if s.Kind != fleet.Freed || s.Gone.Backend != 2 || s.Now < over+5 || s.Now > over+6 {
				t.Fatalf("%d ticks behind its end: %+v", s.Now-over, s)
			}
			freed++
		}
		if f.Now() > over+9 {
			t.Fatalf("%d ticks behind its end %d replicas said so", f.Now()-over, freed)
		}
	}
}

// TestDropsOfTheExamples is those of them that end with a drop: the sixth to the eighth.
func TestDropsOfTheExamples(t *testing.T) {
	f := made(t, conf(3))
	does(f, add(0, 2, four(10, 1, 0, 2)), round())
	b := packet(t, owned(t, 0, 3), api.Syn)
	l := does(f, comes(1, b), letter(api.EvDeliver, 0), letter(api.EvDrop, 0)) // 6
	if len(l) != 1 || l[0].Kind != fleet.Granted {
		t.Fatalf("%+v", l)
	}
	for range 7 {
		sees(t, f.Do(round()))
	}
	drops(t, f, f.Do(round()), 1, node.Late)
	wrong := slices.Clone(b) // 7
	wrong[10] ^= 1
	drops(t, f, f.Do(comes(2, wrong)), 2, node.Malformed)
	for range 16 { // 8
		sees(t, f.Do(comes(1, b)))
	}
	drops(t, f, f.Do(comes(1, b)), 1, node.Crowded)
}

// TestGivenUp is the ninth: nothing from the replica 2 arrives for sixty ticks; the others give it up, and own its flows; when its letters arrive again, all see it.
func TestGivenUp(t *testing.T) {
	f, p := made(t, conf(3)), newPlain(conf(3)) // of the plain one it can be told whose a letter is
	both := func(e api.Event) []fleet.Seen {
		t.Helper()
		l := f.Do(e)
		sees(t, l, p.do(e)...)
		return l
	}
	both(add(0, 2, four(10, 1, 0, 2)))
	for range 60 {
		both(tick())
		for f.Flight() > 0 {
			if p.flight[0].from == 2 {
				both(letter(api.EvDrop, 0))
			} else {
				both(letter(api.EvDeliver, 0))
			}
		}
	}
	y := owned(t, 2, 3)
	for i := range 2 {
		if x := f.Node(i); !slices.Equal(x.Live(), []int{0, 1}) {
			t.Fatalf("%d: %s", i, state(x))
		}
		l := append(f.Do(comes(i, packet(t, y, api.Syn))), settle(t, f)...)
		if len(l) != 2 || l[0].Kind != fleet.Granted || l[0].Node == 2 || l[1].Kind != fleet.Framed || l[1].Node != i {
			t.Errorf("%+v", l)
		}
	}
	for range rounds(3) {
		f.Do(round())
	}
	met(t, f)
	l := append(f.Do(comes(0, packet(t, y, api.Syn))), settle(t, f)...)
	if len(l) != 2 || l[0].Node != 2 || l[1].Node != 0 {
		t.Errorf("%+v", l)
	}
}

// TestTwoAtOnce is the tenth: of the same stamp the address of the greater replica is known, and the later one by its stamp.
func TestTwoAtOnce(t *testing.T) {
	f := made(t, conf(3))
	does(f, add(2, 4, four(1)), add(1, 4, four(9)), round())
	for i := range 3 {
		if s := f.Node(i).Pool().Get(4).Spec; s.Addr != four(1) || s.By != 2 || s.Stamp != 1 {
			t.Errorf("%d knows %+v", i, s)
		}
	}
	does(f, add(0, 4, four(7)), round())
	for i := range 3 {
		if s := f.Node(i).Pool().Get(4).Spec; s.Addr != four(7) || s.By != 0 || s.Stamp != 2 {
			t.Errorf("%d knows %+v", i, s)
		}
	}
}

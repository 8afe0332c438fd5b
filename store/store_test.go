package store_test

import (
	"math"
	"slices"
	"testing"

	"steelyard/addr"
	"steelyard/api"
	"steelyard/flow"
	"steelyard/store"
)

const (
	ticks = api.MaxTicks
	rst   = api.Rst
	fin   = api.Fin
	ack   = api.Ack
)

func four(b ...byte) api.Addr {
	var a api.Addr
	copy(a.B[:], b)
	return a
}

func six(b ...byte) api.Addr {
	a := four(b...)
	a.V6 = true
	return a
}

// tcp, udp: tuples from that port.
func tcp(port int) api.Tuple {
	return api.Tuple{Src: four(10, 0, 0, 1), Dst: four(10, 0, 0, 2), Proto: api.Tcp, SrcPort: port, DstPort: 80}
}

func udp(port int) api.Tuple {
	x := tcp(port)
	x.Proto = api.Udp
	return x
}

// many: so many tuples, of all kinds, no two alike, that do not rise.
func many(n int) []api.Tuple {
	var l []api.Tuple
	for i := range n {
		x := tcp(65535 - i/8)
		if i%2 == 1 {
			x.Proto = api.Udp
		}
		if i/2%2 == 1 {
			x.Src, x.Dst = six(0xfd, 1), six(0xfd, byte(i))
		}
		if i/4%2 == 1 {
			x.Src.B[0] = byte(200 - i/8)
		}
		l = append(l, x)
	}
	return l
}

// noTuples: tuples that can't be.
func noTuples() []api.Tuple {
	l := []api.Tuple{{}}
	for _, change := range []func(x *api.Tuple){
		func(x *api.Tuple) { x.Proto = 0 },
		func(x *api.Tuple) { x.Proto = 58 },
		func(x *api.Tuple) { x.SrcPort = -1 },
		func(x *api.Tuple) { x.SrcPort = 65536 },
		func(x *api.Tuple) { x.DstPort = math.MinInt },
		func(x *api.Tuple) { x.DstPort = math.MaxInt },
		func(x *api.Tuple) { x.Src.V6 = true },
		func(x *api.Tuple) { x.Dst.V6 = true },
		func(x *api.Tuple) { x.Src.B[4] = 1 },
		func(x *api.Tuple) { x.Dst.B[15] = 1 },
	} {
		x := tcp(1)
		change(&x)
		l = append(l, x)
	}
	return l
}

// noTimes, noFlags, noBackends, noGens: what can't be.
func noTimes() []int64 {
	return []int64{math.MinInt64, -ticks, -61, -1, ticks + 1, ticks + 60, ticks + 61, math.MaxInt64 - 60, math.MaxInt64}
}

func noFlags() []int {
	return []int{math.MinInt, -256, -1, 256, 1<<32 + 1, math.MaxInt}
}

func noBackends() []int {
	return []int{math.MinInt, -32, -1, 32, 33, 255, 1 << 32, 1<<32 + 3, math.MaxInt}
}

func noGens() []int64 {
	return []int64{math.MinInt64, -1, 0, ticks + 1, math.MaxInt64}
}

// pin: what stands for a tuple, with a flow in that state whose last packet came then.
func pin(x api.Tuple, backend int, gen int64, state int, last int64) store.Pin {
	return store.Pin{T: x, Backend: backend, Gen: gen, F: flow.Flow{Proto: x.Proto, State: state, Last: last}}
}

// made: an empty store.
func made(t testing.TB, most int) *store.Store {
	t.Helper()
	s, e := store.New(most)
	if s == nil || e != api.OK {
		t.Fatalf("New(%d) = %v, %d", most, s, e)
	}
	has(t, s, 0)
	return s
}

// has fails unless these live, by their tuples.
func has(t testing.TB, s *store.Store, now int64, want ...store.Pin) {
	t.Helper()
	if l, n := s.List(now), s.Len(now); !slices.Equal(l, want) || n != len(want) {
		t.Fatalf("at %d: List = %v, Len = %d, want %v", now, l, n, want)
	}
	for _, p := range want {
		if got, ok := s.Get(p.T, now); got != p || !ok {
			t.Fatalf("at %d: Get = %v, %t, want %v", now, got, ok, p)
		}
	}
}

// begins, goes fail unless there is the pin then; neither, goesNot unless there is that error.
func begins(t testing.TB, s *store.Store, flags int, now, until int64, want store.Pin) {
	t.Helper()
	if p, e := s.Begin(want.T, flags, now, until, want.Backend, want.Gen); p != want || e != api.OK {
		t.Fatalf("Begin at %d = %v, %d, want %v", now, p, e, want)
	}
}

func goes(t testing.TB, s *store.Store, flags int, now, until int64, want store.Pin) {
	t.Helper()
	if p, e := s.Packet(want.T, flags, now, until); p != want || e != api.OK {
		t.Fatalf("Packet at %d = %v, %d, want %v", now, p, e, want)
	}
}

func neither(t testing.TB, s *store.Store, x api.Tuple, flags int, now, until int64, backend int, gen int64, want api.Errno) {
	t.Helper()
	if p, e := s.Begin(x, flags, now, until, backend, gen); p != (store.Pin{}) || e != want {
		t.Fatalf("Begin(%v, %d, %d, %d, %d, %d) = %v, %d, want %d", x, flags, now, until, backend, gen, p, e, want)
	}
}

func goesNot(t testing.TB, s *store.Store, x api.Tuple, flags int, now, until int64, want api.Errno) {
	t.Helper()
	if p, e := s.Packet(x, flags, now, until); p != (store.Pin{}) || e != want {
		t.Fatalf("Packet(%v, %d, %d, %d) = %v, %d, want %d", x, flags, now, until, p, e, want)
	}
}

// uses fails unless so many flows to a backend live, it may be used until then, and is busy or not.
func uses(t testing.TB, s *store.Store, backend int, gen, now int64, count int, until int64, busy bool) {
	t.Helper()
	if n, at, is := s.Count(backend, gen, now), s.Until(backend, gen), s.Busy(backend, gen, now); n != count || at != until || is != busy {
		t.Fatalf("%d of Gen %d at %d: Count = %d, Until = %d, Busy = %t, want %d, %d, %t", backend, gen, now, n, at, is, count, until, busy)
	}
}

func TestNew(t *testing.T) {
	for _, most := range []int{1, 2, 255, 256} {
		s := made(t, most)
		if n := s.Sweep(0); n != 0 {
			t.Errorf("Sweep = %d", n)
		}
		uses(t, s, 0, 1, 0, 0, 0, false)
	}
	for _, most := range []int{math.MinInt, -1, 0, 257, 1 << 32, 1<<32 + 1, math.MaxInt} {
		if s, e := store.New(most); s != nil || e != api.ErrArg {
			t.Errorf("New(%d) = %v, %d", most, s, e)
		}
	}
}

// TestExample is the document's.
func TestExample(t *testing.T) {
	s := made(t, 10)
	begins(t, s, api.Syn, 5, 9, pin(tcp(1), 3, 1, flow.Open, 5))
	uses(t, s, 3, 1, 5, 1, 9, true)
	goes(t, s, 0, 20, 24, pin(tcp(1), 3, 1, flow.Open, 20))
	uses(t, s, 3, 1, 80, 1, 24, true)
	uses(t, s, 3, 1, 81, 0, 24, false)
	uses(t, s, 3, 1, 85, 0, 24, false)
}

// TestOfNil: ErrNil goes ahead of all other errors.
func TestOfNil(t *testing.T) {
	var s *store.Store
	for _, x := range append(noTuples(), tcp(1), udp(1)) {
		for _, now := range append(noTimes(), 0, 5, ticks) {
			goesNot(t, s, x, 0, now, now, api.ErrNil)
			neither(t, s, x, 0, now, now, 3, 1, api.ErrNil)
			neither(t, s, x, -1, now, now, -1, 0, api.ErrNil)
			if p, ok := s.Get(x, now); p != (store.Pin{}) || ok {
				t.Errorf("Get = %v, %t", p, ok)
			}
			has(t, s, now)
			uses(t, s, 3, 1, now, 0, 0, false)
			if n := s.Sweep(now); n != 0 {
				t.Errorf("Sweep = %d", n)
			}
		}
	}
}

// TestOfNoNew: one that New did not make has room for none, and panics at nothing.
func TestOfNoNew(t *testing.T) {
	s := new(store.Store)
	neither(t, s, tcp(1), 0, 5, 5, 3, 1, api.ErrFull)
	goesNot(t, s, tcp(1), 0, 5, 5, api.ErrNone)
	uses(t, s, 3, 1, 5, 0, 0, false)
	has(t, s, 5)
	if n := s.Sweep(5); n != 0 {
		t.Errorf("Sweep = %d", n)
	}
}

// TestGet: a pin that lives, at its times alone; of other tuples none.
func TestGet(t *testing.T) {
	s := made(t, 10)
	p, q := pin(tcp(1), 3, 1, flow.Open, 100), pin(udp(1), 0, ticks, flow.Open, 100)
	begins(t, s, 0, 100, 100, p)
	begins(t, s, 0, 100, 100, q)
	has(t, s, 100, p, q)
	has(t, s, 120, p, q)
	has(t, s, 121, p)
	has(t, s, 160, p)
	has(t, s, 161)
	has(t, s, 99)
	has(t, s, 120, p, q) // that it was asked of other times changed nothing
	for _, now := range noTimes() {
		has(t, s, now)
	}
	for _, x := range append(noTuples(), tcp(2), addr.Turn(tcp(1))) {
		if p, ok := s.Get(x, 100); p != (store.Pin{}) || ok {
			t.Errorf("Get(%v) = %v, %t", x, p, ok)
		}
	}
}

// TestList: by their tuples, in whatever order they began.
func TestList(t *testing.T) {
	for _, turned := range []int{1, 3, 5, 7} {
		s := made(t, 256)
		all := many(256)
		var want []store.Pin
		for i := range all {
			p := pin(all[(i*turned)%256], i%32, int64(i+1), flow.Open, 7)
			begins(t, s, 0, 7, 7, p)
			want = append(want, p)
		}
		slices.SortFunc(want, func(a, b store.Pin) int {
			if addr.LessTuple(a.T, b.T) {
				return -1
			}
			return 1
		})
		has(t, s, 7, want...)
	}
}

// TestSweep: those that do not live then go, and no others; of these it tells how many.
func TestSweep(t *testing.T) {
	s := made(t, 10)
	a, b, c := pin(tcp(1), 3, 1, flow.Open, 100), pin(tcp(2), 3, 1, flow.Open, 110), pin(udp(1), 3, 1, flow.Open, 110)
	for _, p := range []store.Pin{a, b, c} {
		begins(t, s, 0, p.F.Last, 300, p)
	}
	for _, step := range []struct {
		now  int64
		n    int
		left []store.Pin
	}{{110, 0, []store.Pin{a, b, c}}, {130, 0, []store.Pin{a, b, c}}, {131, 1, []store.Pin{a, b}}, {131, 0, []store.Pin{a, b}}, {160, 0, []store.Pin{a, b}}, {161, 1, []store.Pin{b}}, {170, 0, []store.Pin{b}}, {171, 1, nil}, {1000, 0, nil}} {
		if n := s.Sweep(step.now); n != step.n {
			t.Fatalf("Sweep(%d) = %d, want %d", step.now, n, step.n)
		}
		has(t, s, 110, step.left...)
	}
	uses(t, s, 3, 1, 300, 0, 300, true) // how long it may be used is not forgotten
	uses(t, s, 3, 1, 301, 0, 300, false)
}

// TestSweepOfOver: who is over stands there till then; who has not begun does not live either.
func TestSweepOfOver(t *testing.T) {
	s := made(t, 10)
	begins(t, s, fin, 100, 100, pin(tcp(1), 3, 1, flow.Fin, 100))
	goes(t, s, ack, 101, 101, pin(tcp(1), 3, 1, flow.Over, 101))
	begins(t, s, 0, 50, 100, pin(tcp(2), 3, 1, flow.Open, 50)) // both are gone behind it: neither lives at 50
	if n := s.Sweep(50); n != 0 {
		t.Errorf("Sweep = %d", n)
	}
	goes(t, s, rst, 60, 100, pin(tcp(2), 3, 1, flow.Over, 60))
	begins(t, s, 0, 60, 100, pin(udp(2), 3, 1, flow.Open, 60))
	goes(t, s, 0, 62, 100, pin(udp(2), 3, 1, flow.Open, 62))
	if n := s.Sweep(61); n != 1 || s.Len(62) != 0 {
		t.Errorf("Sweep = %d, %d are left", n, s.Len(62))
	}
	begins(t, s, 0, 70, 100, pin(tcp(2), 3, 1, flow.Open, 70))
	goes(t, s, rst, 70, 100, pin(tcp(2), 3, 1, flow.Over, 70))
	goesNot(t, s, tcp(2), 0, 70, 100, api.ErrNone)
	has(t, s, 70)
	if n := s.Sweep(70); n != 1 {
		t.Errorf("Sweep of one that is over = %d", n)
	}
}

// TestPacket: the flow goes on behind each packet, to the last tick at which it lives.
func TestPacket(t *testing.T) {
	s := made(t, 10)
	other := pin(udp(7), 3, 2, flow.Open, 400)
	begins(t, s, api.Syn, 100, 0, pin(tcp(1), 31, ticks, flow.Open, 100))
	for now := int64(100); now <= 400; now += 60 {
		goes(t, s, ack, now, 0, pin(tcp(1), 31, ticks, flow.Open, now))
	}
	begins(t, s, 0, 400, 0, other)
	goes(t, s, fin, 401, 0, pin(tcp(1), 31, ticks, flow.Fin, 401))
	goes(t, s, fin|ack, 402, 0, pin(tcp(1), 31, ticks, flow.Fin, 402))
	has(t, s, 402, pin(tcp(1), 31, ticks, flow.Fin, 402), other)
	goes(t, s, ack, 403, 0, pin(tcp(1), 31, ticks, flow.Over, 403))
	has(t, s, 403, other)
	goesNot(t, s, tcp(1), ack, 403, 0, api.ErrNone)
	goes(t, s, 0, 420, 0, pin(udp(7), 3, 2, flow.Open, 420))
}

// TestPacketOfWrong: of several errors the one that is named first; nothing is changed by them.
func TestPacketOfWrong(t *testing.T) {
	s := made(t, 10)
	p, q := pin(tcp(1), 3, 1, flow.Open, 100), pin(udp(1), 4, 1, flow.Open, 100)
	begins(t, s, 0, 100, 105, p)
	begins(t, s, 0, 100, 105, q)
	for _, x := range append(noTuples(), tcp(1), udp(1), tcp(9)) {
		for _, flags := range append(noFlags(), 0, fin, rst) {
			for _, now := range append(noTimes(), 0, 100, 200) {
				for _, until := range noTimes() {
					goesNot(t, s, x, flags, now, until, api.ErrArg)
				}
				if !addr.RightTuple(x) {
					goesNot(t, s, x, flags, now, 200, api.ErrArg)
				}
			}
			for _, until := range []int64{0, 99, 100, ticks} {
				if addr.RightTuple(x) {
					goesNot(t, s, x, flags, 99, until, api.ErrNone)
					goesNot(t, s, x, flags, 161, until, api.ErrNone)
					goesNot(t, s, x, flags, -1, until, api.ErrNone)
					goesNot(t, s, x, flags, math.MaxInt64, until, api.ErrNone)
				}
			}
		}
	}
	goesNot(t, s, tcp(9), 0, 100, 200, api.ErrNone)
	goesNot(t, s, addr.Turn(tcp(1)), 0, 100, 200, api.ErrNone)
	for _, flags := range noFlags() {
		goesNot(t, s, tcp(1), flags, 110, 200, api.ErrArg)
		goesNot(t, s, udp(1), flags, 110, 200, api.ErrArg)
	}
	goesNot(t, s, udp(1), ack, 110, 200, api.ErrArg)
	goesNot(t, s, udp(1), 0, 121, 200, api.ErrNone)
	has(t, s, 100, p, q)
	uses(t, s, 3, 1, 100, 1, 105, true)
	uses(t, s, 4, 1, 100, 1, 105, true)
}

// TestPacketAtTheEnd: behind the greatest time a flow may live still, but no packet comes.
func TestPacketAtTheEnd(t *testing.T) {
	s := made(t, 10)
	begins(t, s, 0, ticks, ticks, pin(tcp(1), 3, ticks, flow.Open, ticks))
	goes(t, s, 0, ticks, ticks, pin(tcp(1), 3, ticks, flow.Open, ticks))
	for _, now := range []int64{ticks + 1, ticks + 60} {
		goesNot(t, s, tcp(1), 0, now, ticks, api.ErrArg)
		neither(t, s, tcp(1), 0, now, ticks, 3, 1, api.ErrState)
		neither(t, s, tcp(2), 0, now, ticks, 3, 1, api.ErrArg)
		uses(t, s, 3, ticks, now, 1, ticks, true)
	}
	goesNot(t, s, tcp(1), 0, ticks+61, ticks, api.ErrNone)
	neither(t, s, tcp(1), 0, ticks+61, ticks, 3, 1, api.ErrArg)
	uses(t, s, 3, ticks, ticks+61, 0, ticks, false)
}

// TestBegin: with all backends and Gens there are, at their edges.
func TestBegin(t *testing.T) {
	for backend := range 32 {
		for _, gen := range []int64{1, 2, ticks} {
			for _, now := range []int64{0, 1, ticks} {
				for _, until := range []int64{0, 1, ticks} {
					s := made(t, 2)
					begins(t, s, fin, now, until, pin(tcp(1), backend, gen, flow.Fin, now))
					begins(t, s, 0, now, until, pin(udp(1), backend, gen, flow.Open, now))
					has(t, s, now, pin(tcp(1), backend, gen, flow.Fin, now), pin(udp(1), backend, gen, flow.Open, now))
					uses(t, s, backend, gen, now, 2, until, true)
				}
			}
		}
	}
}

// TestBeginOfWrong: of several errors the one that is named first; nothing is changed by them.
func TestBeginOfWrong(t *testing.T) {
	s := made(t, 2)
	p, q := pin(tcp(1), 3, 1, flow.Open, 100), pin(udp(1), 4, 1, flow.Open, 110)
	begins(t, s, 0, 100, 105, p)
	begins(t, s, 0, 110, 105, q)
	goesOn := func(x api.Tuple, flags int, now int64) {
		t.Helper()
		for _, until := range noTimes() {
			neither(t, s, x, flags, now, until, 3, 1, api.ErrArg)
			neither(t, s, x, flags, now, until, -1, 0, api.ErrArg)
		}
		for _, backend := range noBackends() {
			neither(t, s, x, flags, now, 200, backend, 1, api.ErrArg)
		}
		for _, gen := range noGens() {
			neither(t, s, x, flags, now, 200, 3, gen, api.ErrArg)
		}
	}
	for _, flags := range append(noFlags(), 0, rst) {
		for _, now := range append(noTimes(), 0, 110, 200) {
			for _, x := range noTuples() {
				neither(t, s, x, flags, now, 200, 3, 1, api.ErrArg)
			}
			goesOn(tcp(1), flags, now)
			goesOn(tcp(9), flags, now)
		}
		neither(t, s, tcp(1), flags, 110, 200, 3, 1, api.ErrState)
		neither(t, s, udp(1), flags, 110, 200, 3, 1, api.ErrState)
	}
	for _, x := range []api.Tuple{tcp(9), udp(9)} { // the store is full: flow's errors are named ahead of that
		for _, flags := range noFlags() {
			neither(t, s, x, flags, 110, 200, 3, 1, api.ErrArg)
		}
		for _, now := range noTimes() {
			neither(t, s, x, 0, now, 200, 3, 1, api.ErrArg)
		}
		neither(t, s, x, 0, 110, 200, 3, 1, api.ErrFull)
	}
	neither(t, s, tcp(9), rst, 110, 200, 3, 1, api.ErrState)
	neither(t, s, udp(9), rst, 110, 200, 3, 1, api.ErrArg)
	has(t, s, 110, p, q)
	uses(t, s, 3, 1, 110, 1, 105, true)
	uses(t, s, 4, 1, 110, 1, 105, true)
}

// TestFull: as many as most may live; who lives no more makes room, and a refused call takes none away.
func TestFull(t *testing.T) {
	for _, most := range []int{1, 2, 255, 256} {
		s := made(t, most)
		all := many(most + 1)
		var want []store.Pin
		for i, x := range all[:most] {
			want = append(want, pin(x, i%32, 1, flow.Open, 100))
			begins(t, s, 0, 100, 100, want[i])
		}
		last := all[most]
		neither(t, s, last, 0, 100, 500, 9, 9, api.ErrFull)
		neither(t, s, last, 0, 120, 500, 9, 9, api.ErrFull)
		uses(t, s, 9, 9, 100, 0, 0, false)
		if n := s.Len(100); n != most {
			t.Fatalf("Len = %d, want %d", n, most)
		}
		for _, p := range want {
			if got, ok := s.Get(p.T, 100); got != p || !ok {
				t.Fatalf("Get = %v, %t, want %v", got, ok, p)
			}
		}
		begins(t, s, 0, 161, 161, pin(last, 9, 9, flow.Open, 161))
		has(t, s, 161, pin(last, 9, 9, flow.Open, 161))
		has(t, s, 100) // all that did not live went
		if n := s.Sweep(161); n != 0 {
			t.Fatalf("Sweep = %d", n)
		}
	}
}

// TestRoom: one that is over makes room at once, and one that is refused sweeps nothing.
func TestRoom(t *testing.T) {
	s := made(t, 2)
	begins(t, s, 0, 100, 100, pin(tcp(1), 3, 1, flow.Open, 100))
	begins(t, s, 0, 100, 100, pin(tcp(2), 3, 1, flow.Open, 100))
	neither(t, s, tcp(3), 0, 100, 100, 4, 1, api.ErrFull)
	goes(t, s, rst, 101, 101, pin(tcp(1), 3, 1, flow.Over, 101))
	neither(t, s, tcp(3), rst, 101, 100, 4, 1, api.ErrState)
	neither(t, s, tcp(2), 0, 101, 100, 4, 1, api.ErrState)
	neither(t, s, tcp(3), 0, 500, -1, 4, 1, api.ErrArg)
	has(t, s, 101, pin(tcp(2), 3, 1, flow.Open, 100))
	begins(t, s, 0, 101, 101, pin(tcp(3), 4, 1, flow.Open, 101))
	neither(t, s, tcp(1), 0, 101, 100, 4, 1, api.ErrFull)
	if n := s.Sweep(101); n != 0 {
		t.Errorf("Begin left %d that do not live", n)
	}
	has(t, s, 101, pin(tcp(2), 3, 1, flow.Open, 100), pin(tcp(3), 4, 1, flow.Open, 101))
}

// TestGoByNothingElse: who lives no more stands there till Begin or Sweep.
func TestGoByNothingElse(t *testing.T) {
	s := made(t, 10)
	p, q := pin(tcp(1), 3, 1, flow.Open, 100), pin(tcp(2), 3, 1, flow.Open, 150)
	begins(t, s, 0, 100, 100, p)
	begins(t, s, 0, 150, 150, q)
	has(t, s, 200, q)
	goesNot(t, s, tcp(1), 0, 200, 200, api.ErrNone)
	goes(t, s, 0, 200, 200, pin(tcp(2), 3, 1, flow.Open, 200))
	uses(t, s, 3, 1, 200, 1, 200, true)
	neither(t, s, tcp(1), rst, 200, 200, 3, 1, api.ErrState)
	has(t, s, 160, p)
	if n := s.Sweep(200); n != 1 {
		t.Errorf("Sweep = %d", n)
	}
	has(t, s, 160)
}

// TestAnew: a tuple's new flow may go to another backend, in the place of the old one.
func TestAnew(t *testing.T) {
	s := made(t, 1)
	begins(t, s, 0, 100, 105, pin(tcp(1), 3, 1, flow.Open, 100))
	goes(t, s, rst, 110, 115, pin(tcp(1), 3, 1, flow.Over, 110))
	begins(t, s, fin, 110, 112, pin(tcp(1), 3, 2, flow.Fin, 110))
	has(t, s, 110, pin(tcp(1), 3, 2, flow.Fin, 110))
	uses(t, s, 3, 1, 110, 0, 115, true)
	uses(t, s, 3, 2, 110, 1, 112, true)
	begins(t, s, 0, 171, 175, pin(tcp(1), 4, 1, flow.Open, 171))
	has(t, s, 171, pin(tcp(1), 4, 1, flow.Open, 171))
	uses(t, s, 3, 2, 171, 0, 112, false)
	uses(t, s, 4, 1, 171, 1, 175, true)
}

// TestCount: of that backend and that Gen alone.
func TestCount(t *testing.T) {
	s := made(t, 256)
	for i, x := range many(256) {
		begins(t, s, 0, 100, 100, pin(x, i%4, int64(1+i%3), flow.Open, 100))
	}
	for backend := range 32 {
		for gen := int64(0); gen <= 4; gen++ {
			want := 0
			for i := range 256 {
				if i%4 == backend && int64(1+i%3) == gen {
					want++
				}
			}
			uses(t, s, backend, gen, 100, want, until(want), want > 0)
			if n := s.Count(backend, gen, 99); n != 0 {
				t.Errorf("ahead of their packets %d live", n)
			}
		}
	}
	for _, backend := range noBackends() {
		uses(t, s, backend, 1, 100, 0, 0, false)
	}
	for _, gen := range noGens() {
		uses(t, s, 0, gen, 100, 0, 0, false)
	}
}

// until: that of TestCount's backends.
func until(count int) int64 {
	if count > 0 {
		return 100
	}
	return 0
}

// TestUntil: the greatest time that was given with any packet of any flow to that backend, ever.
func TestUntil(t *testing.T) {
	s := made(t, 10)
	begins(t, s, 0, 100, 150, pin(tcp(1), 3, 1, flow.Open, 100))
	begins(t, s, 0, 100, 120, pin(tcp(2), 3, 1, flow.Open, 100))
	uses(t, s, 3, 1, 100, 2, 150, true)
	begins(t, s, 0, 100, 400, pin(tcp(3), 3, 2, flow.Open, 100))
	begins(t, s, 0, 100, 500, pin(tcp(4), 4, 1, flow.Open, 100))
	goes(t, s, 0, 110, 130, pin(tcp(1), 3, 1, flow.Open, 110))
	uses(t, s, 3, 1, 110, 2, 150, true)
	goes(t, s, rst, 110, 200, pin(tcp(2), 3, 1, flow.Over, 110))
	goes(t, s, rst, 111, 0, pin(tcp(1), 3, 1, flow.Over, 111))
	uses(t, s, 3, 1, 111, 0, 200, true)
	uses(t, s, 3, 1, 200, 0, 200, true)
	uses(t, s, 3, 1, 201, 0, 200, false)
	s.Sweep(1000)
	begins(t, s, 0, 1000, 1, pin(tcp(1), 3, 1, flow.Open, 1000))
	uses(t, s, 3, 1, 1000, 1, 200, true)
	uses(t, s, 3, 1, 1061, 0, 200, false)
	uses(t, s, 3, 2, 400, 0, 400, true)
	uses(t, s, 4, 1, 500, 0, 500, true)
	uses(t, s, 4, 2, 0, 0, 0, false)
}

// TestBusyOfTimeZero: a packet until 0 is a packet, none at all is none.
func TestBusyOfTimeZero(t *testing.T) {
	s := made(t, 10)
	for _, now := range []int64{math.MinInt64, -1, 0} {
		uses(t, s, 3, 1, now, 0, 0, false)
	}
	begins(t, s, fin, 0, 0, pin(tcp(1), 3, 1, flow.Fin, 0))
	goes(t, s, ack, 0, 0, pin(tcp(1), 3, 1, flow.Over, 0))
	for _, now := range []int64{math.MinInt64, -1, 0} {
		uses(t, s, 3, 1, now, 0, 0, true)
		uses(t, s, 3, 2, now, 0, 0, false)
		uses(t, s, 3, 0, now, 0, 0, false)
		uses(t, s, 4, 1, now, 0, 0, false)
	}
	uses(t, s, 3, 1, 1, 0, 0, false)
}

// TestAnswersAreTheCallers: what is written into an answer is seen by no later one.
func TestAnswersAreTheCallers(t *testing.T) {
	s := made(t, 10)
	p, q := pin(tcp(1), 3, 1, flow.Open, 100), pin(tcp(2), 3, 1, flow.Open, 100)
	begins(t, s, 0, 100, 100, p)
	begins(t, s, 0, 100, 100, q)
	l := s.List(100)
	clear(append(l, store.Pin{Backend: 9})[:cap(l)])
	clear(l)
	has(t, s, 100, p, q)
}

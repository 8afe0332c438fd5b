package store_test

import (
	"cmp"
	"math"
	"math/rand"
	"slices"
	"testing"

	"steelyard/addr"
	"steelyard/api"
	"steelyard/flow"
	"steelyard/store"
)

// plain is a store by the document's words: a list of pins, gone through for each answer, and all packets there ever were.
type plain struct {
	most int
	pins []store.Pin
	ever []given
}

// given is a packet to a backend, and the time that was given with it.
type given struct {
	backend int
	gen     int64
	until   int64
}

func canBe(t api.Tuple) bool {
	return addr.RightTuple(t)
}

func (p *plain) list(now int64) []store.Pin {
	var l []store.Pin
	for _, pin := range p.pins {
		if flow.Live(pin.F, now) {
			l = append(l, pin)
		}
	}
	slices.SortFunc(l, func(a, b store.Pin) int {
		return cmp.Or(cmp.Compare(a.T.Proto, b.T.Proto), byAddr(a.T.Src, b.T.Src), byAddr(a.T.Dst, b.T.Dst), cmp.Compare(a.T.SrcPort, b.T.SrcPort), cmp.Compare(a.T.DstPort, b.T.DstPort))
	})
	return l
}

func byAddr(a, b api.Addr) int {
	if a.V6 != b.V6 {
		if a.V6 {
			return 1
		}
		return -1
	}
	return slices.Compare(a.B[:], b.B[:])
}

func (p *plain) get(t api.Tuple, now int64) (store.Pin, bool) {
	for _, pin := range p.list(now) {
		if pin.T == t {
			return pin, true
		}
	}
	return store.Pin{}, false
}

// place: that of the pin of a tuple, be it over or not; behind all, if there is none.
func (p *plain) place(t api.Tuple) int {
	for i, pin := range p.pins {
		if pin.T == t {
			return i
		}
	}
	return len(p.pins)
}

func (p *plain) packet(t api.Tuple, flags int, now, until int64) (store.Pin, api.Errno) {
	if !canBe(t) || until < 0 || until > 1<<40 {
		return store.Pin{}, api.ErrArg
	}
	pin, ok := p.get(t, now)
	if !ok {
		return store.Pin{}, api.ErrNone
	}
	f, e := flow.Step(pin.F, flags, now)
	if e != api.OK {
		return store.Pin{}, e
	}
	pin.F = f
	p.pins[p.place(t)] = pin
	p.ever = append(p.ever, given{pin.Backend, pin.Gen, until})
	return pin, api.OK
}

func (p *plain) begin(t api.Tuple, flags int, now, until int64, backend int, gen int64) (store.Pin, api.Errno) {
	if !canBe(t) || until < 0 || until > 1<<40 || backend < 0 || backend > 31 || gen < 1 || gen > 1<<40 {
		return store.Pin{}, api.ErrArg
	}
	if _, ok := p.get(t, now); ok {
		return store.Pin{}, api.ErrState
	}
	f, e := flow.Begin(t.Proto, flags, now)
	if e != api.OK {
		return store.Pin{}, e
	}
	if len(p.list(now)) == p.most {
		return store.Pin{}, api.ErrFull
	}
	pin := store.Pin{T: t, Backend: backend, Gen: gen, F: f}
	p.pins = append(p.list(now), pin)
	p.ever = append(p.ever, given{backend, gen, until})
	return pin, api.OK
}

func (p *plain) sweep(now int64) int {
	was := len(p.pins)
	p.pins = p.list(now)
	return was - len(p.pins)
}

func (p *plain) count(backend int, gen, now int64) int {
	n := 0
	for _, pin := range p.list(now) {
		if pin.Backend == backend && pin.Gen == gen {
			n++
		}
	}
	return n
}

// until: the greatest time that was given; below all times, if none was.
func (p *plain) until(backend int, gen int64) int64 {
	most := int64(math.MinInt64)
	for _, g := range p.ever {
		if g.backend == backend && g.gen == gen {
			most = max(most, g.until)
		}
	}
	return most
}

func (p *plain) busy(backend int, gen, now int64) bool {
	until := p.until(backend, gen)
	return p.count(backend, gen, now) > 0 || until >= 0 && until >= now
}

// both is a store and a plain one, of which the same is asked.
type both struct {
	s *store.Store
	p *plain
}

func pair(t testing.TB, most int) both {
	t.Helper()
	return both{made(t, most), &plain{most: most}}
}

func (b both) packet(t testing.TB, x api.Tuple, flags int, now, until int64) {
	t.Helper()
	pin, e := b.s.Packet(x, flags, now, until)
	if want, f := b.p.packet(x, flags, now, until); pin != want || e != f {
		t.Fatalf("Packet(%v, %d, %d, %d) = %v, %d, want %v, %d", x, flags, now, until, pin, e, want, f)
	}
}

func (b both) begin(t testing.TB, x api.Tuple, flags int, now, until int64, backend int, gen int64) {
	t.Helper()
	pin, e := b.s.Begin(x, flags, now, until, backend, gen)
	if want, f := b.p.begin(x, flags, now, until, backend, gen); pin != want || e != f {
		t.Fatalf("Begin(%v, %d, %d, %d, %d, %d) = %v, %d, want %v, %d", x, flags, now, until, backend, gen, pin, e, want, f)
	}
}

func (b both) sweep(t testing.TB, now int64) {
	t.Helper()
	if n, want := b.s.Sweep(now), b.p.sweep(now); n != want {
		t.Fatalf("Sweep(%d) = %d, want %d", now, n, want)
	}
}

// alike fails unless both say the same of that time, of that tuple and of that backend.
func (b both) alike(t testing.TB, x api.Tuple, backend int, gen, now int64) {
	t.Helper()
	want := b.p.list(now)
	if l, n := b.s.List(now), b.s.Len(now); !slices.Equal(l, want) || n != len(want) {
		t.Fatalf("at %d: List = %v, Len = %d, want %v", now, l, n, want)
	}
	pin, ok := b.s.Get(x, now)
	if want, is := b.p.get(x, now); pin != want || ok != is {
		t.Fatalf("at %d: Get(%v) = %v, %t, want %v, %t", now, x, pin, ok, want, is)
	}
	if n, want := b.s.Count(backend, gen, now), b.p.count(backend, gen, now); n != want {
		t.Fatalf("at %d: Count(%d, %d) = %d, want %d", now, backend, gen, n, want)
	}
	if until, want := b.s.Until(backend, gen), max(0, b.p.until(backend, gen)); until != want {
		t.Fatalf("Until(%d, %d) = %d, want %d", backend, gen, until, want)
	}
	if is, want := b.s.Busy(backend, gen, now), b.p.busy(backend, gen, now); is != want {
		t.Fatalf("at %d: Busy(%d, %d) = %t, want %t", now, backend, gen, is, want)
	}
}

// chance asks numbers of chance.
type chance struct{ *rand.Rand }

func by(seed int64) chance { return chance{rand.New(rand.NewSource(seed))} }

// one: a thing out of a list; of rare ones one in many times.
func one[T any](c chance, l []T, rare ...T) T {
	if len(rare) > 0 && c.Intn(60) == 0 {
		return rare[c.Intn(len(rare))]
	}
	return l[c.Intn(len(l))]
}

func (c chance) flags() int {
	return one(c, []int{0, 0, 0, 0, api.Ack, api.Fin, api.Fin | api.Ack, api.Syn, api.Rst}, noFlags()...)
}

// does asks something of both, and then how they stand, now and at another time.
func (b both) does(t testing.TB, c chance, now int64, tuples []api.Tuple) {
	t.Helper()
	x := one(c, tuples, noTuples()...)
	at := one(c, []int64{now}, append(noTimes(), now-c.Int63n(100))...)
	until := one(c, []int64{now, now, now + c.Int63n(100), 0}, append(noTimes(), ticks)...)
	backend, gen := one(c, []int{0, 1, 31}, noBackends()...), one(c, []int64{1, 2, ticks}, noGens()...)
	switch c.Intn(12) {
	case 0:
		b.sweep(t, at)
	case 1, 2, 3, 4:
		b.begin(t, x, c.flags(), at, until, backend, gen)
	default:
		b.packet(t, x, c.flags(), at, until)
	}
	b.alike(t, x, backend, gen, now)
	b.alike(t, one(c, tuples), 0, 1, now+c.Int63n(200)-100)
}

// TestByChance holds stores against plain ones, step by step.
func TestByChance(t *testing.T) {
	c := by(1)
	all := many(12)
	for i := range 300 {
		b := pair(t, one(c, []int{1, 2, 5, 12, 256}))
		now := one(c, []int64{0, 50, 1 << 30, ticks - 1000})
		for range 150 {
			b.does(t, c, now, all[:1+i%12])
			now = min(now+c.Int63n(one(c, []int64{1, 5, 40})), ticks)
		}
	}
}

// FuzzStore: whatever is asked, it is answered as by the plain one.
func FuzzStore(f *testing.F) {
	f.Add([]byte{1, 0, 2, 5, 4, 3, 0, 1, 16, 15, 4, 3, 2, 0, 0, 65, 0, 0}, 2)
	f.Add([]byte{1, 3, 1, 5, 200, 0, 1, 4, 0, 0, 9, 1, 0, 3, 4, 1, 1, 1, 1, 3, 2, 0, 0, 0}, 1)
	f.Fuzz(func(t *testing.T, script []byte, most int) {
		s, e := store.New(most)
		if (e == api.OK) != (most >= 1 && most <= 256) || (s == nil) != (e != api.OK) {
			t.Fatalf("New(%d) = %v, %d", most, s, e)
		}
		if e != api.OK {
			return
		}
		b := both{s, &plain{most: most}}
		all, now := many(16), int64(100)
		for i := 0; i+5 < min(len(script), 900); i += 6 {
			x, flags, until, to := all[script[i+1]%16], int(script[i+2]), now+int64(int8(script[i+4])), int(script[i+5])
			now += int64(int8(script[i+3]))
			switch script[i] % 3 {
			case 0:
				b.packet(t, x, flags, now, until)
			case 1:
				b.begin(t, x, flags, now, until, to%40-4, int64(to/40))
			case 2:
				b.sweep(t, now)
			}
			b.alike(t, x, to%40-4, int64(to/40), now)
		}
	})
}

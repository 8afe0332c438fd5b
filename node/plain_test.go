package node_test

import (
	"fmt"
	"math/rand"
	"slices"
	"testing"

	"steelyard/api"
	"steelyard/hash"
	"steelyard/header"
	"steelyard/letter"
	"steelyard/life"
	"steelyard/maglev"
	"steelyard/member"
	"steelyard/node"
	"steelyard/pool"
	"steelyard/segment"
	"steelyard/store"
	"steelyard/sums"
	"steelyard/swim"
	"steelyard/tuple"
)

// plain is a replica by the document's words, that keeps no table, and packets that wait in a list, and asks for all anew.
type plain struct {
	me     int
	c      node.Conf
	swim   *swim.Swim
	pool   *pool.Pool
	store  *store.Store
	now    int64
	number int64
	waits  []wait
	counts [12]uint64
	r      node.Result
}

// wait is a packet that waits.
type wait struct {
	id, till int64
	to       int
	b        []byte
}

func newPlain(me int, c node.Conf) *plain {
	p := &plain{me: me, c: c}
	p.swim, _ = swim.New(me, c.Nodes)
	p.pool, _ = pool.New(me, c.Nodes)
	p.store, _ = store.New(c.Flows)
	return p
}

// step does something, and tells what came of it.
func (p *plain) step(do func()) node.Result {
	was := p.pool.Copy()
	p.r = node.Result{}
	do()
	for backend := range 32 {
		is, ahead := p.pool.Get(backend), was.Get(backend)
		if is.Life == 3 && (ahead.Life != 3 || ahead.Gen != is.Gen) {
			p.r.Gone = append(p.r.Gone, node.Gone{Backend: backend, Gen: is.Gen})
		}
	}
	return p.r
}

func (p *plain) table() []int {
	l, _ := p.pool.Table(p.c.Slots)
	return l
}

func (p *plain) drop(kind int) {
	p.counts[kind]++
	p.r.Drops = append(p.r.Drops, kind)
}

func (p *plain) send(to int, l letter.Letter) {
	b, e := letter.Put(l)
	if e != api.OK {
		panic(fmt.Sprintf("%+v can't be: %d", l, e))
	}
	p.r.Out = append(p.r.Out, node.Out{To: to, Data: b})
}

func (p *plain) tellAll(u pool.Update) {
	for to := range p.c.Nodes {
		if to != p.me && slices.Contains(p.swim.Live(), to) {
			p.send(to, letter.Letter{Kind: 2, Updates: []pool.Update{u}})
		}
	}
	p.r.Made = append(p.r.Made, u)
}

// owner: of those that are not given up the one with the greatest number.
func (p *plain) owner(x api.Tuple) int {
	h, _ := hash.Flow(x)
	best, most := -1, uint64(0)
	for _, i := range p.swim.Live() {
		if n := hash.Pair(3, uint64(i), h); best < 0 || n > most {
			best, most = i, n
		}
	}
	return best
}

// grant: a drop's kind, or -1.
func (p *plain) grant(from int, x api.Tuple, flags int, until int64) (letter.Answer, int) {
	pin, e := p.store.Packet(x, flags, p.now, until)
	fresh := e == api.ErrNone
	if fresh {
		h, _ := hash.Flow(x)
		backend, none := maglev.Find(p.table(), h)
		if none != api.OK || !p.pool.Takes(backend) {
			return letter.Answer{}, 3
		}
		pin, e = p.store.Begin(x, flags, p.now, until, backend, p.pool.Get(backend).Gen)
		if e == api.ErrFull {
			return letter.Answer{}, 4
		}
	}
	if e != api.OK {
		return letter.Answer{}, 8
	}
	is := p.pool.Get(pin.Backend)
	if is.Gen != pin.Gen {
		return letter.Answer{}, 3
	}
	p.r.Grants = append(p.r.Grants, node.Grant{From: from, T: x, Flags: flags, Backend: pin.Backend, Gen: pin.Gen, Until: until, New: fresh})
	return letter.Answer{Backend: pin.Backend, Gen: pin.Gen, Addr: is.Spec.Addr, Until: until}, -1
}

// frame lays its tunnel byte by byte.
func (p *plain) frame(a letter.Answer, b []byte) {
	seen, _ := tuple.Of(b)
	h, _ := hash.Flow(seen.T)
	proto := []byte{0x08, 0x00}
	if seen.T.Src.V6 {
		proto = []byte{0x86, 0xdd}
	}
	data := append([]byte{3, 0}, proto...)
	data = append(data, 0, 0, 1, 0, 0, 1, 1, 2, 0, 0)
	for i := 40; i >= 0; i -= 8 {
		data = append(data, byte(a.Gen>>i))
	}
	data = append(data, b...)
	src := four(172, 16, 0, byte(p.me+1))
	if a.Addr.V6 {
		src = six(0xfd)
		src.B[15] = byte(p.me + 1)
	}
	ip := header.Ip{V6: a.Addr.V6, Src: src, Dst: a.Addr, Proto: 17, Ttl: 64}
	var e api.Errno
	ip.Data, e = segment.Put(ip, segment.Seg{Proto: 17, SrcPort: 49152 + int(h%16384), DstPort: 6081, Data: data})
	out, f := header.Put(ip)
	if e != api.OK || f != api.OK || len(out) > p.c.Mtu {
		p.drop(5)
		return
	}
	p.r.Frames = append(p.r.Frames, node.Frame{Backend: a.Backend, Gen: a.Gen, T: seen.T, Data: out})
}

func (p *plain) packet(b []byte) {
	seen, e := tuple.Of(b)
	switch e {
	case api.OK:
	case api.ErrProto:
		p.drop(1)
		return
	case api.ErrFrag:
		p.drop(2)
		return
	default:
		p.drop(0)
		return
	}
	to := p.owner(seen.T)
	switch {
	case to == p.me:
		if a, kind := p.grant(p.me, seen.T, seen.Flags, p.now); kind >= 0 {
			p.drop(kind)
		} else {
			p.frame(a, b)
		}
	case len(p.waits) == 16:
		p.drop(7)
	default:
		p.number++
		p.waits = append(p.waits, wait{p.number, p.now + 8, to, slices.Clone(b)})
		p.send(to, letter.Letter{Kind: 4, Ask: letter.Asked{Id: p.number, T: seen.T, Flags: seen.Flags}})
	}
}

func (p *plain) letter(from int, b []byte) {
	l, e := letter.Get(b)
	if from == p.me || from < 0 || from >= p.c.Nodes || e != api.OK || l.Kind == 1 && l.Swim.From != from {
		p.drop(9)
		return
	}
	switch l.Kind {
	case 1:
		for _, m := range p.swim.Take(l.Swim) {
			p.send(m.To, letter.Letter{Kind: 1, Swim: m})
		}
	case 2:
		for _, u := range l.Updates {
			p.pool.Merge(u)
		}
	case 3:
		if lacks := p.pool.Lacks(l.Marks); len(lacks) > 0 {
			p.send(from, letter.Letter{Kind: 2, Updates: lacks})
		}
	case 4:
		a, kind := p.grant(from, l.Ask.T, l.Ask.Flags, p.now+4)
		switch kind {
		case 3, 8:
			a.Why = 1
		case 4:
			a.Why = 2
		}
		a.Id = l.Ask.Id
		p.send(from, letter.Letter{Kind: 5, Told: a})
	case 5:
		p.told(from, l.Told)
	}
}

func (p *plain) told(from int, a letter.Answer) {
	for i, w := range p.waits {
		if w.id != a.Id || w.to != from {
			continue
		}
		p.waits = slices.Delete(slices.Clone(p.waits), i, i+1)
		is := p.pool.Get(a.Backend)
		switch {
		case a.Why == 1:
			p.drop(3)
		case a.Why == 2:
			p.drop(4)
		case p.now > a.Until, is.Gen == a.Gen && is.Life == 3, is.Gen > a.Gen:
			p.drop(6)
		default:
			p.frame(a, w.b)
		}
		return
	}
}

func (p *plain) tick() {
	p.now++
	p.store.Sweep(p.now)
	for len(p.waits) > 0 && p.waits[0].till == p.now { // all wait for as long, so those that came first are first
		p.waits = p.waits[1:]
		p.drop(6)
	}
	for _, m := range p.swim.Tick() {
		p.send(m.To, letter.Letter{Kind: 1, Swim: m})
	}
	p.drain()
	if p.now%5 != 0 {
		return
	}
	live := slices.DeleteFunc(p.swim.Live(), func(i int) bool { return i == p.me })
	if l := p.pool.Lacks(nil); len(l) > 0 && len(live) > 0 {
		to := live[(p.now/5)%int64(len(live))]
		p.send(to, letter.Letter{Kind: 2, Updates: l})
		p.send(to, letter.Letter{Kind: 3, Marks: p.pool.Marks()})
	}
}

// drain: those that are draining, and not busy here; then those of which all have said so.
func (p *plain) drain() {
	var l []pool.Update
	for backend := range 32 {
		r := p.pool.Get(backend)
		if r.Life == 2 && r.Done>>p.me&1 == 0 && !p.store.Busy(backend, r.Gen, p.now) {
			u, _ := p.pool.Done(backend)
			l = append(l, u)
		}
	}
	for _, u := range append(l, p.pool.Settle()...) {
		p.tellAll(u)
	}
}

// pair is a replica and a plain one, of which the same is asked.
type pair struct {
	x *node.Node
	p *plain
}

// alike fails unless both tell the same, and stand alike.
func (w *pair) alike(t testing.TB, what string, r, want node.Result) {
	t.Helper()
	if got, wanted := fmt.Sprintf("%+v", r), fmt.Sprintf("%+v", want); got != wanted {
		t.Fatalf("at %d, %d: %s:\n%s\nwant\n%s", w.p.now, w.p.me, what, got, wanted)
	}
	if !slices.Equal(w.x.Table(), w.p.table()) || !w.x.Pool().Same(w.p.pool) || w.x.Pool().Clock() != w.p.pool.Clock() {
		t.Fatalf("%s: %s, want %v, %v", what, state(w.x), w.p.table(), w.p.pool)
	}
	if w.x.Now() != w.p.now || w.x.Waiting() != len(w.p.waits) || !slices.Equal(w.x.Live(), w.p.swim.Live()) || !slices.Equal(w.x.Pins(), w.p.store.List(w.p.now)) {
		t.Fatalf("%s: %s, want %d, %v, %v, %v", what, state(w.x), w.p.now, w.p.waits, w.p.swim.Live(), w.p.store.List(w.p.now))
	}
	c := w.x.Counts()
	for kind, n := range w.p.counts {
		if c.Get(kind) != n {
			t.Fatalf("%s: of the kind %d: %d, want %d", what, kind, c.Get(kind), n)
		}
	}
}

// letterOut is a letter on its way.
type letterOut struct {
	from, to int
	b        []byte
}

// town is pairs, and letters between them that are lost, doubled, late, and of anybody's making.
type town struct {
	*rand.Rand
	all    []*pair
	flight []letterOut
	tuples []api.Tuple
	forged bool // are there letters that no replica sent?
}

func newTown(rnd *rand.Rand, nodes int) *town {
	c := node.Conf{Nodes: nodes, Slots: one(rnd, []int{2, 13, 101}), Flows: one(rnd, []int{1, 3, 20, 256}), Mtu: one(rnd, []int{100, 120, 1500})}
	w := &town{Rand: rnd, tuples: make([]api.Tuple, 0, 30)}
	for me := range nodes {
		x, _ := node.New(me, c)
		w.all = append(w.all, &pair{x, newPlain(me, c)})
	}
	for port := range 10 {
		w.tuples = append(w.tuples, tcp(port), tcp6(port), udp(port))
	}
	return w
}

func one[T any](rnd *rand.Rand, l []T) T { return l[rnd.Intn(len(l))] }

// did: both of a pair did the same.
func (w *town) did(t testing.TB, i int, what string, r, want node.Result) {
	t.Helper()
	w.all[i].alike(t, what, r, want)
	for _, o := range r.Out {
		w.flight = append(w.flight, letterOut{i, o.To, o.Data})
	}
}

func (w *town) tick(t testing.TB) {
	t.Helper()
	for i, b := range w.all {
		w.did(t, i, "Tick", b.x.Tick(), b.p.step(b.p.tick))
	}
}

func (w *town) packet(t testing.TB, i int, b []byte) {
	t.Helper()
	y := w.all[i]
	w.did(t, i, "Packet", y.x.Packet(b), y.p.step(func() { y.p.packet(b) }))
}

func (w *town) letter(t testing.TB, to, from int, b []byte) {
	t.Helper()
	y := w.all[to]
	w.did(t, to, fmt.Sprintf("Letter %x from %d", b, from), y.x.Letter(from, b), y.p.step(func() { y.p.letter(from, b) }))
}

// arrive: some letter does, is lost, or is there twice.
func (w *town) arrive(t testing.TB) {
	t.Helper()
	if len(w.flight) == 0 {
		return
	}
	i := w.Intn(len(w.flight))
	o := w.flight[i]
	switch w.Intn(12) {
	case 0:
		w.flight = append(w.flight, o)
		return
	case 1:
	default:
		w.letter(t, o.to, o.from, o.b)
	}
	w.flight = slices.Delete(w.flight, i, i+1)
}

// command: one is told something of a backend, or finds it well or not.
func (w *town) command(t testing.TB) {
	t.Helper()
	i := w.Intn(len(w.all))
	y, backend := w.all[i], one(w.Rand, []int{0, 1, 2, 31, 32, -1})
	var u pool.Update
	var r node.Result
	var e, f api.Errno
	if w.Intn(3) == 0 {
		ok := w.Intn(2) == 0
		r, e = y.x.Vote(backend, ok)
		u, f = y.p.pool.Vote(backend, ok)
	} else {
		c := api.Cmd{Kind: 1 + w.Intn(20)/9, Backend: backend, Addr: w.addr(), Weight: float64(w.Intn(4))}
		r, e = y.x.Admin(c)
		u, f = y.p.pool.Do(c)
	}
	want := y.p.step(func() {
		if f == api.OK {
			y.p.tellAll(u)
		}
	})
	if e != f {
		t.Fatalf("of %d: %d, want %d", backend, e, f)
	}
	w.did(t, i, "a command", r, want)
}

func (w *town) addr() api.Addr {
	if w.Intn(2) == 0 {
		return six(0xfd, byte(w.Intn(9)))
	}
	return four(10, 1, byte(w.Intn(9)))
}

// bytes: of a packet, or of none.
func (w *town) bytes(t testing.TB) []byte {
	t.Helper()
	x := one(w.Rand, w.tuples)
	flags := one(w.Rand, []int{0, 0, 0, api.Syn, api.Ack, api.Fin, api.Rst})
	if x.Proto == api.Udp {
		flags = 0
	}
	b := packet(t, x, flags, make([]byte, w.Intn(40))...)
	switch w.Intn(20) {
	case 0:
		b[w.Intn(len(b))] ^= 1 << w.Intn(8)
	case 1:
		return one(w.Rand, [][]byte{icmp(t), fragment(t), b[:w.Intn(len(b))]})
	}
	return b
}

// forge: a letter that nobody sent, from anybody.
func (w *town) forge(t testing.TB) {
	t.Helper()
	from, to := w.Intn(len(w.all)+2)-1, w.Intn(len(w.all))
	l := letter.Letter{Kind: 1 + w.Intn(5)}
	number := one(w.Rand, []int64{1, 2, 3, max(1, w.all[to].p.number-w.Int63n(3)), ticks})
	number = max(1, number)
	switch l.Kind {
	case letter.Member:
		l.Swim = swim.Msg{Kind: 1 + w.Intn(3), To: to, From: max(0, from), Seq: number, Target: w.Intn(4)}
		if w.Intn(2) == 0 {
			l.Swim.News = []swim.Item{{Node: w.Intn(5), Info: member.Info{State: w.Intn(3), Inc: one(w.Rand, []int64{0, 1, 2, 3, ticks})}}}
		}
	case letter.Updates:
		for backend := range 32 {
			if w.Intn(30) == 0 {
				r := life.Rec{Gen: one(w.Rand, []int64{1, 1, 2, 3}), Life: 1 + w.Intn(3), Spec: life.Spec{Stamp: 1 + w.Int63n(9), By: w.Intn(16), Addr: w.addr(), Weight: float64(w.Intn(3))}, Done: w.Intn(65536)}
				l.Updates = append(l.Updates, pool.Update{Backend: backend, Rec: r})
			}
		}
	case letter.Marks:
		l.Marks = []pool.Mark{{Backend: w.Intn(3), Sum: w.Uint32()}}
	case letter.Ask:
		l.Ask = letter.Asked{Id: number, T: one(w.Rand, w.tuples)}
		if l.Ask.T.Proto == api.Tcp {
			l.Ask.Flags = w.Intn(256)
		}
	case letter.Told:
		l.Told = letter.Answer{Id: number, Why: w.Intn(3)}
		if l.Told.Why == letter.Yes {
			l.Told.Backend, l.Told.Gen, l.Told.Addr, l.Told.Until = w.Intn(3), 1+w.Int63n(3), w.addr(), max(0, w.all[to].p.now+w.Int63n(9)-4)
		}
	}
	if b, e := letter.Put(l); e == api.OK {
		if w.Intn(10) == 0 {
			b[w.Intn(len(b))] ^= 1 << w.Intn(8)
		}
		w.letter(t, to, from, b)
	}
}

// does: something, by a number.
func (w *town) does(t testing.TB, what int) {
	t.Helper()
	switch {
	case what < 30:
		w.packet(t, w.Intn(len(w.all)), w.bytes(t))
	case what < 80:
		w.arrive(t)
	case what < 88:
		w.tick(t)
	case what < 93:
		w.command(t)
	case what < 95:
		i, n := w.Intn(len(w.all)), w.Int()-w.Int()
		w.all[i].x.Draw(n)
		w.all[i].p.swim.Draw(n)
	case w.forged:
		w.forge(t)
	}
}

// TestByChance holds replicas against plain ones, step by step, with letters of anybody's making, and without.
func TestByChance(t *testing.T) {
	for seed := range int64(60) {
		rnd := rand.New(rand.NewSource(seed))
		w := newTown(rnd, 1+int(seed)%5)
		w.forged = seed%3 == 0
		for range 1500 {
			w.does(t, rnd.Intn(100))
		}
	}
}

// FuzzPacket: of any bytes just one frame, or just one drop, or one packet more waits.
func FuzzPacket(f *testing.F) {
	for _, b := range malformed(f) {
		f.Add(b, 1500)
	}
	f.Add(icmp(f), 1)
	f.Add(packet(f, tcp(1), api.Syn, 1, 2, 3), 65535)
	f.Add(packet(f, tcp6(2), api.Rst), 100)
	f.Add(packet(f, udp(3), 0), 76)
	f.Fuzz(func(t *testing.T, b []byte, mtu int) {
		c := conf(2)
		c.Mtu = mtu
		if !node.Right(c) {
			return
		}
		w := &pair{made(t, 0, c), newPlain(0, c)}
		u, _ := w.p.pool.Do(add(2, four(10)))
		w.alike(t, "Admin", admin(t, w.x, add(2, four(10))), w.p.step(func() { w.p.tellAll(u) }))
		for range 20 {
			waits := w.x.Waiting()
			r := w.x.Packet(b)
			w.alike(t, "Packet", r, w.p.step(func() { w.p.packet(b) }))
			outcome(t, r, 1, waits, w.x.Waiting())
		}
	})
}

// FuzzLetter: of any bytes as a letter nothing panics, and all is as by the plain one.
func FuzzLetter(f *testing.F) {
	for i, l := range letters() {
		f.Add(wrote(f, l), i)
	}
	f.Fuzz(func(t *testing.T, b []byte, from int) {
		w := &pair{made(t, 0, conf(3)), newPlain(0, conf(3))}
		y := packet(t, owned(t, 1, 1, 0, 1, 2)[0], 0)
		w.alike(t, "Packet", w.x.Packet(y), w.p.step(func() { w.p.packet(y) }))
		for _, l := range [][]byte{b, seal(b), b} {
			was := slices.Clone(l)
			w.alike(t, "Letter", w.x.Letter(from, l), w.p.step(func() { w.p.letter(from, l) }))
			if !slices.Equal(l, was) {
				t.Fatal("the bytes were written into")
			}
			w.alike(t, "Tick", w.x.Tick(), w.p.step(w.p.tick))
		}
	})
}

// seal: bytes as the body of a letter, of the kind that the first one says, with its sum.
func seal(b []byte) []byte {
	if len(b) == 0 || len(b) > 60000 {
		return b
	}
	body := b[1:]
	l := append([]byte{1, 1 + b[0]%5, byte(len(body) >> 8), byte(len(body))}, body...)
	sum := sums.Crc(l)
	return append(l, byte(sum>>24), byte(sum>>16), byte(sum>>8), byte(sum))
}

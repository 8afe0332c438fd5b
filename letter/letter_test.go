package letter_test

import (
	"bytes"
	"math"
	"math/rand"
	"slices"
	"testing"

	"steelyard/addr"
	"steelyard/api"
	"steelyard/letter"
	"steelyard/life"
	"steelyard/member"
	"steelyard/pool"
	"steelyard/swim"
)

func four(b ...byte) api.Addr {
	var a api.Addr
	copy(a.B[:], b)
	return a
}

func six(b ...byte) api.Addr {
	a := four(b...)
	a.V6 = true
	return a
}

// item: a replica is said to be so.
func item(node, state int, inc int64) swim.Item {
	return swim.Item{Node: node, Info: member.Info{State: state, Inc: inc}}
}

// rec is what is known of a backend, with so many votes.
func rec(votes int) life.Rec {
	r := life.Rec{Gen: 1, Life: api.Active, Spec: life.Spec{Stamp: 5, By: 2, Addr: four(10, 1, 0, 2), Weight: 1}}
	for i := range votes {
		r.Votes = append(r.Votes, life.Vote{Stamp: int64(i + 1), Ok: i%2 == 0})
	}
	return r
}

func tcp() api.Tuple {
	return api.Tuple{Src: four(1, 2, 3, 4), Dst: four(6, 7, 8, 9), Proto: api.Tcp, SrcPort: 5, DstPort: 10}
}

func udp() api.Tuple {
	t := tcp()
	t.Proto, t.Src, t.Dst = api.Udp, six(0xfd, 1), six(bytes.Repeat([]byte{0xfd}, 16)...)
	return t
}

// message, updates, marks, ask, told: letters of each kind.
func message(m swim.Msg) letter.Letter {
	return letter.Letter{Kind: letter.Member, Swim: m}
}

func updates(l ...pool.Update) letter.Letter {
	return letter.Letter{Kind: letter.Updates, Updates: l}
}

func marks(l ...pool.Mark) letter.Letter {
	return letter.Letter{Kind: letter.Marks, Marks: l}
}

func ask(a letter.Asked) letter.Letter {
	return letter.Letter{Kind: letter.Ask, Ask: a}
}

func told(a letter.Answer) letter.Letter {
	return letter.Letter{Kind: letter.Told, Told: a}
}

// simple: one of each kind, by the number of its kind; nothing of 0.
func simple() []letter.Letter {
	return []letter.Letter{
		{},
		message(swim.Msg{Kind: swim.Req, To: 1, From: 2, Seq: 0x0102030405, Target: 3, News: []swim.Item{item(4, api.Suspect, 6), item(15, api.Dead, api.MaxTicks)}}),
		updates(pool.Update{Backend: 3, Rec: rec(0)}, pool.Update{Backend: 31, Rec: rec(2)}),
		marks(pool.Mark{Backend: 0, Sum: 7}, pool.Mark{Backend: 9, Sum: 0xfedcba98}),
		ask(letter.Asked{Id: 0x0a0b0c0d0e, T: tcp(), Flags: 0x92}),
		told(letter.Answer{Id: 8, Why: letter.Yes, Backend: 2, Gen: 0x0203040506, Addr: four(10, 1, 0, 2), Until: 0x0708090a0b}),
	}
}

// but: a letter with something else; its lists are its own.
func but(l letter.Letter, change func(*letter.Letter)) letter.Letter {
	l.Swim.News, l.Updates, l.Marks = slices.Clone(l.Swim.News), slices.Clone(l.Updates), slices.Clone(l.Marks)
	change(&l)
	return l
}

// alike: are these the same letters?
func alike(a, b letter.Letter) bool {
	return a.Kind == b.Kind && a.Swim.Kind == b.Swim.Kind && a.Swim.To == b.Swim.To && a.Swim.From == b.Swim.From && a.Swim.Seq == b.Swim.Seq &&
		a.Swim.Target == b.Swim.Target && slices.Equal(a.Swim.News, b.Swim.News) && slices.Equal(a.Marks, b.Marks) && a.Ask == b.Ask && a.Told == b.Told &&
		slices.EqualFunc(a.Updates, b.Updates, func(x, y pool.Update) bool { return x.Backend == y.Backend && life.Same(x.Rec, y.Rec) })
}

// rights: letters that can be, at the edges.
func rights() []letter.Letter {
	l := simple()[1:]
	for kind := 1; kind <= 3; kind++ {
		l = append(l, message(swim.Msg{Kind: kind, Seq: 1}), message(swim.Msg{Kind: kind, To: 15, From: 15, Seq: api.MaxTicks, Target: 15, News: []swim.Item{}}))
	}
	for n := range 7 {
		m := swim.Msg{Kind: swim.Ping, Seq: 1}
		for i := range n {
			m.News = append(m.News, item(i%2*15, i%3, int64(i%2)*api.MaxTicks))
		}
		l = append(l, message(m))
	}
	for n := 1; n <= 32; n++ {
		var u []pool.Update
		var m []pool.Mark
		for i := range n {
			r := rec(n / 2)
			r.Spec.Addr, r.Life, r.Done = six(byte(i)), 1+i%3, i*2114
			u = append(u, pool.Update{Backend: 32 - n + i, Rec: r})
			m = append(m, pool.Mark{Backend: i, Sum: uint32(i%2) * math.MaxUint32})
		}
		l = append(l, updates(u...), marks(m...))
	}
	for i := range 32 {
		l = append(l, updates(pool.Update{Backend: i, Rec: life.Rec{Gen: api.MaxTicks, Life: api.Released, Spec: life.Spec{Stamp: api.MaxTicks, Weight: math.MaxFloat64}}}))
		l = append(l, marks(pool.Mark{Backend: i}))
	}
	ports := tcp()
	ports.SrcPort, ports.DstPort = 0, 65535
	for _, a := range []letter.Asked{{Id: 1, T: tcp()}, {Id: api.MaxTicks, T: ports, Flags: 255}, {Id: 1, T: udp()}, {Id: api.MaxTicks, T: udp()}} {
		l = append(l, ask(a))
	}
	for _, a := range []letter.Answer{
		{Id: 1, Gen: 1}, {Id: api.MaxTicks, Backend: 31, Gen: api.MaxTicks, Addr: six(bytes.Repeat([]byte{255}, 16)...), Until: api.MaxTicks}, {Id: 1, Gen: 1, Addr: six()},
		{Id: 1, Why: letter.NoOne}, {Id: api.MaxTicks, Why: letter.NoOne}, {Id: 1, Why: letter.NoRoom}, {Id: api.MaxTicks, Why: letter.NoRoom},
	} {
		l = append(l, told(a))
	}
	return l
}

// beyond: numbers that are not from low to high.
func beyond(low, high int) []int {
	return []int{math.MinInt, -1 << 32, low - 256, low - 1, high + 1, high + 256, high + 1<<32, math.MaxInt}
}

// wrongs: letters that can't be, each by one thing.
func wrongs() []letter.Letter {
	var l []letter.Letter
	add := func(kind int, change func(*letter.Letter)) {
		l = append(l, but(simple()[kind], change))
	}
	wrongMembers(add)
	wrongLists(add)
	wrongFlows(add)
	wrongRests(add)
	for _, kind := range beyond(1, 5) {
		l = append(l, letter.Letter{Kind: kind})
		add(letter.Member, func(l *letter.Letter) { l.Kind = kind })
	}
	return append(l, letter.Letter{})
}

func wrongMembers(add func(int, func(*letter.Letter))) {
	for _, n := range beyond(1, 3) {
		add(letter.Member, func(l *letter.Letter) { l.Swim.Kind = n })
	}
	for _, n := range beyond(0, 15) {
		add(letter.Member, func(l *letter.Letter) { l.Swim.To = n })
		add(letter.Member, func(l *letter.Letter) { l.Swim.From = n })
		add(letter.Member, func(l *letter.Letter) { l.Swim.Target = n })
		add(letter.Member, func(l *letter.Letter) { l.Swim.News[1].Node = n })
	}
	for _, n := range beyond(1, api.MaxTicks) {
		add(letter.Member, func(l *letter.Letter) { l.Swim.Seq = int64(n) })
	}
	for _, n := range beyond(0, 2) {
		add(letter.Member, func(l *letter.Letter) { l.Swim.News[0].Info.State = n })
	}
	for _, n := range beyond(0, api.MaxTicks) {
		add(letter.Member, func(l *letter.Letter) { l.Swim.News[1].Info.Inc = int64(n) })
	}
	for _, n := range []int{7, 8, 255, 256, 257, 258, 70000} {
		add(letter.Member, func(l *letter.Letter) { l.Swim.News = make([]swim.Item, n) })
	}
}

func wrongLists(add func(int, func(*letter.Letter))) {
	for _, n := range beyond(0, 31) {
		add(letter.Updates, func(l *letter.Letter) { l.Updates[0].Backend = n })
		add(letter.Updates, func(l *letter.Letter) { l.Updates[1].Backend = n })
		add(letter.Marks, func(l *letter.Letter) { l.Marks[0].Backend = n })
		add(letter.Marks, func(l *letter.Letter) { l.Marks[1].Backend = n })
	}
	for _, pair := range [][2]int{{3, 3}, {4, 3}, {31, 0}, {0, 0}, {31, 31}} {
		add(letter.Updates, func(l *letter.Letter) { l.Updates[0].Backend, l.Updates[1].Backend = pair[0], pair[1] })
		add(letter.Marks, func(l *letter.Letter) { l.Marks[0].Backend, l.Marks[1].Backend = pair[0], pair[1] })
	}
	for _, n := range []int{0, 33, 256, 288, 70000} { // none, and more than there are backends, whether they rise or not
		add(letter.Updates, func(l *letter.Letter) {
			l.Updates = slices.Repeat([]pool.Update{{Rec: rec(0)}}, n)
			for i := range l.Updates {
				l.Updates[i].Backend = i
			}
		})
		add(letter.Marks, func(l *letter.Letter) {
			l.Marks = make([]pool.Mark, n)
			for i := range l.Marks {
				l.Marks[i].Backend = i
			}
		})
	}
	add(letter.Updates, func(l *letter.Letter) { l.Updates[0].Rec = life.Rec{} }) // it can be, but its Gen is not above 0
	for _, spoil := range []func(*life.Rec){
		func(r *life.Rec) { r.Gen = 0 }, func(r *life.Rec) { r.Gen = -1 }, func(r *life.Rec) { r.Gen = api.MaxTicks + 1 }, func(r *life.Rec) { r.Life = 0 },
		func(r *life.Rec) { r.Life = 4 }, func(r *life.Rec) { r.Spec.Stamp = 0 }, func(r *life.Rec) { r.Spec.By = 16 }, func(r *life.Rec) { r.Spec.Addr.B[4] = 1 },
		func(r *life.Rec) { r.Spec.Weight = math.NaN() }, func(r *life.Rec) { r.Spec.Weight = math.Copysign(0, -1) }, func(r *life.Rec) { r.Spec.Weight = math.Inf(1) },
		func(r *life.Rec) { r.Votes = []life.Vote{{}} }, func(r *life.Rec) { r.Votes = make([]life.Vote, 70000) }, func(r *life.Rec) { r.Done = 65536 },
	} {
		add(letter.Updates, func(l *letter.Letter) { spoil(&l.Updates[1].Rec) })
	}
}

func wrongFlows(add func(int, func(*letter.Letter))) {
	for _, n := range beyond(1, api.MaxTicks) {
		add(letter.Ask, func(l *letter.Letter) { l.Ask.Id = int64(n) })
		add(letter.Told, func(l *letter.Letter) { l.Told.Gen = int64(n) })
		add(letter.Told, func(l *letter.Letter) { l.Told.Id = int64(n) })
		add(letter.Told, func(l *letter.Letter) { l.Told = letter.Answer{Id: int64(n), Why: letter.NoOne} })
		add(letter.Told, func(l *letter.Letter) { l.Told = letter.Answer{Id: int64(n), Why: letter.NoRoom} })
	}
	for _, n := range beyond(0, 255) {
		add(letter.Ask, func(l *letter.Letter) { l.Ask.Flags = n })
	}
	for _, n := range append(beyond(0, 0), 16, 255) {
		add(letter.Ask, func(l *letter.Letter) { l.Ask.T, l.Ask.Flags = udp(), n })
	}
	for _, n := range beyond(0, 65535) {
		add(letter.Ask, func(l *letter.Letter) { l.Ask.T.SrcPort = n })
		add(letter.Ask, func(l *letter.Letter) { l.Ask.T.DstPort = n })
	}
	add(letter.Ask, func(l *letter.Letter) { l.Ask.T = api.Tuple{} })
	add(letter.Ask, func(l *letter.Letter) { l.Ask.T.Proto = 1 })
	add(letter.Ask, func(l *letter.Letter) { l.Ask.T.Src.V6 = true })
	add(letter.Ask, func(l *letter.Letter) { l.Ask.T.Dst.B[15] = 1 })
	for _, n := range beyond(0, 2) {
		add(letter.Told, func(l *letter.Letter) { l.Told.Why = n })
		add(letter.Told, func(l *letter.Letter) { l.Told = letter.Answer{Id: 1, Why: n} })
	}
	for _, n := range beyond(0, 31) {
		add(letter.Told, func(l *letter.Letter) { l.Told.Backend = n })
	}
	for _, n := range beyond(0, api.MaxTicks) {
		add(letter.Told, func(l *letter.Letter) { l.Told.Until = int64(n) })
	}
	add(letter.Told, func(l *letter.Letter) { l.Told.Addr.B[4] = 1 })
	for why := letter.NoOne; why <= letter.NoRoom; why++ { // all but the number and Why is 0
		for _, a := range []letter.Answer{{Backend: 1}, {Backend: -1}, {Gen: 1}, {Addr: four(1)}, {Addr: four(1, 2, 3, 4, 5)}, {Addr: six()}, {Until: 1}, {Until: -1}} {
			a.Id, a.Why = 1, why
			add(letter.Told, func(l *letter.Letter) { l.Told = a })
		}
	}
}

// wrongRests: something of another kind.
func wrongRests(add func(int, func(*letter.Letter))) {
	for kind := range 6 {
		for of, changes := range [][]func(*letter.Letter){
			letter.Member: {
				func(l *letter.Letter) { l.Swim.Kind = 1 }, func(l *letter.Letter) { l.Swim.To = 1 }, func(l *letter.Letter) { l.Swim.From = -1 },
				func(l *letter.Letter) { l.Swim.Seq = 1 }, func(l *letter.Letter) { l.Swim.Target = 1 }, func(l *letter.Letter) { l.Swim.News = make([]swim.Item, 1) },
			},
			letter.Updates: {func(l *letter.Letter) { l.Updates = make([]pool.Update, 1) }},
			letter.Marks:   {func(l *letter.Letter) { l.Marks = make([]pool.Mark, 1) }},
			letter.Ask: {
				func(l *letter.Letter) { l.Ask.Id = 1 }, func(l *letter.Letter) { l.Ask.T.Proto = api.Udp }, func(l *letter.Letter) { l.Ask.T.DstPort = 1 },
				func(l *letter.Letter) { l.Ask.T.Dst.V6 = true }, func(l *letter.Letter) { l.Ask.T.Src.B[15] = 1 }, func(l *letter.Letter) { l.Ask.Flags = -1 },
			},
			letter.Told: {
				func(l *letter.Letter) { l.Told.Id = 1 }, func(l *letter.Letter) { l.Told.Why = letter.NoRoom }, func(l *letter.Letter) { l.Told.Backend = 1 },
				func(l *letter.Letter) { l.Told.Gen = 1 }, func(l *letter.Letter) { l.Told.Addr.V6 = true }, func(l *letter.Letter) { l.Told.Until = -1 },
			},
		} {
			for _, change := range changes {
				if kind != of {
					add(kind, change)
				}
			}
		}
	}
}

func TestRight(t *testing.T) {
	for _, l := range rights() {
		if !letter.Right(l) {
			t.Errorf("not Right: %+v", l)
		}
	}
	for i, l := range wrongs() {
		if letter.Right(l) {
			t.Errorf("Right: the wrong one %d of the kind %d", i, l.Kind)
		}
		if b, e := letter.Put(l); len(b) != 0 || e != api.ErrArg {
			t.Errorf("Put of the wrong one %d of the kind %d = %x, %d", i, l.Kind, b, e)
		}
	}
}

// TestEmptyLists: a list without anything is none, be it nil or not.
func TestEmptyLists(t *testing.T) {
	for kind, l := range simple()[1:] {
		was, e := letter.Put(l)
		l = but(l, func(l *letter.Letter) {
			l.Swim.News, l.Updates, l.Marks = append([]swim.Item{}, l.Swim.News...), append([]pool.Update{}, l.Updates...), append([]pool.Mark{}, l.Marks...)
		})
		if b, f := letter.Put(l); !letter.Right(l) || e != api.OK || f != api.OK || !bytes.Equal(b, was) {
			t.Errorf("the kind %d: %x, %d, want %x, %d", kind+1, b, f, was, e)
		}
	}
}

// TestConstants: the document's numbers.
func TestConstants(t *testing.T) {
	if [...]int{letter.Member, letter.Updates, letter.Marks, letter.Ask, letter.Told} != [...]int{1, 2, 3, 4, 5} || [...]int{letter.Yes, letter.NoOne, letter.NoRoom} != [...]int{0, 1, 2} {
		t.Error("another number")
	}
}

// plainRight is Right by the document's words, with one answer at the end.
func plainRight(l letter.Letter) bool {
	in := func(n, low, high int64) bool { return low <= n && n <= high }
	none := l
	ok := false
	switch l.Kind {
	case letter.Member:
		m := l.Swim
		ok = in(int64(m.Kind), 1, 3) && in(int64(m.To), 0, 15) && in(int64(m.From), 0, 15) && in(int64(m.Target), 0, 15) && in(m.Seq, 1, 1<<40) && len(m.News) <= 6
		for _, i := range m.News {
			ok = ok && in(int64(i.Node), 0, 15) && in(int64(i.Info.State), 0, 2) && in(i.Info.Inc, 0, 1<<40)
		}
		none.Swim = swim.Msg{}
	case letter.Updates:
		ok = in(int64(len(l.Updates)), 1, 32)
		for i, u := range l.Updates {
			ok = ok && in(int64(u.Backend), 0, 31) && (i == 0 || u.Backend > l.Updates[i-1].Backend) && life.Right(u.Rec) && u.Rec.Gen > 0
		}
		none.Updates = nil
	case letter.Marks:
		ok = in(int64(len(l.Marks)), 1, 32)
		for i, m := range l.Marks {
			ok = ok && in(int64(m.Backend), 0, 31) && (i == 0 || m.Backend > l.Marks[i-1].Backend)
		}
		none.Marks = nil
	case letter.Ask:
		ok = in(l.Ask.Id, 1, 1<<40) && addr.RightTuple(l.Ask.T) && in(int64(l.Ask.Flags), 0, 255) && (l.Ask.T.Proto != api.Udp || l.Ask.Flags == 0)
		none.Ask = letter.Asked{}
	case letter.Told:
		a := l.Told
		yes := in(int64(a.Backend), 0, 31) && in(a.Gen, 1, 1<<40) && addr.Right(a.Addr) && in(a.Until, 0, 1<<40)
		no := a.Backend == 0 && a.Gen == 0 && a.Addr == api.Addr{} && a.Until == 0
		ok = in(a.Id, 1, 1<<40) && in(int64(a.Why), 0, 2) && (a.Why == 0 && yes || a.Why != 0 && no)
		none.Told = letter.Answer{}
	}
	return ok && alike(none, letter.Letter{Kind: l.Kind})
}

// chance makes letters by chance; one thing in so many is as wrong as can be.
type chance struct {
	*rand.Rand
	wrong int
}

// in: a number from low to high, most often.
func (c chance) in(low, high int) int {
	if c.wrong > 0 && c.Intn(c.wrong) == 0 {
		return slices.Concat(beyond(low, high), []int{0, c.Int()})[c.Intn(10)]
	}
	return low + c.Intn(high-low+1)>>c.Intn(2)
}

func (c chance) tick(low int) int64 {
	return int64(c.in(low, api.MaxTicks))
}

func (c chance) addr(v6 bool) api.Addr {
	var a api.Addr
	if c.wrong > 0 && c.Intn(c.wrong) == 0 {
		v6 = !v6
	}
	for i := range a.B {
		if v6 || i < 4 {
			a.B[i] = byte(c.Int())
		}
	}
	a.V6 = v6 != (c.wrong > 0 && c.Intn(c.wrong) == 0)
	return a
}

func (c chance) rec() life.Rec {
	r := life.Rec{Gen: c.tick(1), Life: c.in(1, 3), Done: c.in(0, 65535)}
	r.Spec = life.Spec{Stamp: c.tick(1), By: c.in(0, 15), Addr: c.addr(c.Intn(2) == 0), Weight: c.ExpFloat64()}
	for range c.Intn(4) * c.Intn(6) {
		r.Votes = append(r.Votes, life.Vote{Stamp: c.tick(1), Ok: c.Intn(2) == 0})
	}
	return r
}

// backends: some, rising.
func (c chance) backends() []int {
	var l []int
	for i := range 32 {
		if c.Intn(32) < 1+c.Intn(8) {
			l = append(l, i)
		}
	}
	if len(l) == 0 {
		l = []int{c.Intn(32)}
	}
	if c.wrong > 0 && c.Intn(c.wrong) == 0 {
		l[c.Intn(len(l))] = c.in(0, 31)
	}
	return l
}

func (c chance) letter() letter.Letter {
	l := letter.Letter{Kind: c.in(1, 5)}
	c.fill(&l, l.Kind)
	if c.wrong > 0 && c.Intn(c.wrong) == 0 {
		c.fill(&l, c.in(1, 5))
	}
	return l
}

// fill: what a letter of that kind has.
func (c chance) fill(l *letter.Letter, kind int) {
	switch kind {
	case letter.Member:
		l.Swim = swim.Msg{Kind: c.in(1, 3), To: c.in(0, 15), From: c.in(0, 15), Seq: c.tick(1), Target: c.in(0, 15)}
		for range min(c.in(0, 6), 300) {
			l.Swim.News = append(l.Swim.News, item(c.in(0, 15), c.in(0, 2), c.tick(0)))
		}
	case letter.Updates:
		l.Updates = nil
		for _, backend := range c.backends() {
			l.Updates = append(l.Updates, pool.Update{Backend: backend, Rec: c.rec()})
		}
	case letter.Marks:
		l.Marks = nil
		for _, backend := range c.backends() {
			l.Marks = append(l.Marks, pool.Mark{Backend: backend, Sum: c.Uint32()})
		}
	case letter.Ask:
		v6 := c.Intn(2) == 0
		l.Ask = letter.Asked{Id: c.tick(1), T: api.Tuple{Src: c.addr(v6), Dst: c.addr(v6), Proto: api.Udp, SrcPort: c.in(0, 65535), DstPort: c.in(0, 65535)}}
		if c.Intn(3) > 0 {
			l.Ask.T.Proto, l.Ask.Flags = api.Tcp, c.in(0, 255)
		}
	case letter.Told:
		l.Told = letter.Answer{Id: c.tick(1), Why: c.in(0, 2)}
		if l.Told.Why == letter.Yes || c.wrong > 0 && c.Intn(c.wrong) == 0 {
			l.Told.Backend, l.Told.Gen, l.Told.Addr, l.Told.Until = c.in(0, 31), c.tick(1), c.addr(c.Intn(2) == 0), c.tick(0)
		}
	}
}

// TestRightByChance holds Right, and what Put refuses, against the plain one.
func TestRightByChance(t *testing.T) {
	right := 0
	for i := range 40000 {
		l := chance{rand.New(rand.NewSource(int64(i))), 3 + i%100}.letter()
		want := plainRight(l)
		if letter.Right(l) != want {
			t.Fatalf("Right(%+v) is not %v", l, want)
		}
		if b, e := letter.Put(l); (e == api.OK) != want || (len(b) > 0) != want || !want && e != api.ErrArg {
			t.Fatalf("Put(%+v) = %x, %d", l, b, e)
		}
		if want {
			right++
		}
	}
	if right < 10000 || right > 30000 {
		t.Errorf("%d are right", right)
	}
}

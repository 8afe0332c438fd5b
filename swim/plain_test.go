package swim_test

import (
	"math"
	"math/rand"
	"slices"
	"testing"

	"steelyard/api"
	"steelyard/member"
	"steelyard/swim"
)

// row is how the plain one sees a replica, and what it has to tell of it.
type row struct {
	is, told member.Info
	times    int   // it is to be told still
	since    int64 // it is doubted
}

// asked is a ping, its own or one for another replica.
type asked struct {
	number, began, seq int64
	target, whom       int
	answered           bool
}

// plain is a part by the document's words: all that is known stands in rows, news are no bytes, and what was answered stays.
type plain struct {
	me     int
	rows   []row
	now    int64
	number int64
	turn   int
	drawn  []int
	probe  *asked
	relays []asked
	sent   []swim.Msg
}

func (p *plain) tell(node int) {
	p.rows[node].told, p.rows[node].times = p.rows[node].is, 0
	for n := 1; n <= len(p.rows); n *= 2 {
		p.rows[node].times += 3
	}
}

// send: six news at most go along; they are looked for by how often they are to be told.
func (p *plain) send(m swim.Msg) {
	m.From = p.me
	was := slices.Clone(p.rows)
	for times := 15; times > 0; times-- {
		for node, r := range was {
			if r.times == times && len(m.News) < 6 {
				m.News = append(m.News, swim.Item{Node: node, Info: r.told})
				p.rows[node].times--
			}
		}
	}
	p.sent = append(p.sent, m)
}

// others: all but me, rising, or those alone that are not Dead.
func (p *plain) others(all bool) []int {
	var l []int
	for node, r := range p.rows {
		if node != p.me && (all || r.is.State != api.Dead) {
			l = append(l, node)
		}
	}
	return l
}

func (p *plain) tick() []swim.Msg {
	p.sent = nil
	p.now++
	for node, r := range p.rows {
		if r.is.State == api.Suspect && p.now >= r.since+30 {
			p.rows[node].is.State = api.Dead
			p.tell(node)
		}
	}
	if p.probe != nil && !p.probe.answered && p.now == p.probe.began+3 {
		p.help()
	}
	var young []asked
	for _, r := range p.relays {
		if p.now < r.began+10 {
			young = append(young, r)
		}
	}
	p.relays = young
	if p.now%10 == 0 {
		p.period()
	}
	return p.sent
}

func (p *plain) help() {
	var above, below []int
	for _, node := range p.others(false) {
		if node > p.probe.target {
			above = append(above, node)
		}
		if node < p.probe.target {
			below = append(below, node)
		}
	}
	for i, node := range append(above, below...) {
		if i < 2 {
			p.send(swim.Msg{Kind: 3, To: node, Seq: p.probe.number, Target: p.probe.target})
		}
	}
}

func (p *plain) period() {
	if q := p.probe; q != nil && !q.answered && p.rows[q.target].is.State == api.Alive {
		p.rows[q.target].is.State = api.Suspect
		p.rows[q.target].since = p.now
		p.tell(q.target)
	}
	p.probe = nil
	all := p.turn%4 == 3
	if l := p.others(all); len(l) > 0 {
		place := 0
		for turn := range p.turn {
			if (turn%4 == 3) == all {
				place++
			}
		}
		if len(p.drawn) > 0 {
			place, p.drawn = p.drawn[0], p.drawn[1:]
		}
		place %= len(l)
		if place < 0 {
			place += len(l)
		}
		p.number++
		p.probe = &asked{number: p.number, began: p.now, target: l[place]}
		p.send(swim.Msg{Kind: 1, To: l[place], Seq: p.number})
	}
	p.turn++
}

func (p *plain) draw(n int) {
	if len(p.drawn) < 1000 {
		p.drawn = append(p.drawn, n)
	}
}

func (p *plain) has(node int) bool {
	return node >= 0 && node < len(p.rows)
}

func (p *plain) take(m swim.Msg) []swim.Msg {
	p.sent = nil
	if m.To != p.me || !p.has(m.From) || m.From == p.me || m.Kind != 1 && m.Kind != 2 && m.Kind != 3 || m.Seq < 1 || len(m.News) > 6 {
		return nil
	}
	for _, i := range m.News {
		if p.has(i.Node) && i.Info.State >= 0 && i.Info.State <= 2 && i.Info.Inc >= 0 && i.Info.Inc <= api.MaxTicks {
			p.hear(i.Node, i.Info)
		}
	}
	if p.rows[m.From].is.State != api.Alive {
		p.tell(m.From)
	}
	switch m.Kind {
	case 1:
		p.send(swim.Msg{Kind: 2, To: m.From, Seq: m.Seq})
	case 3:
		if p.has(m.Target) && m.Target != p.me && m.Target != m.From && len(p.relays) < 16 {
			p.number++
			p.relays = append(p.relays, asked{number: p.number, began: p.now, seq: m.Seq, whom: m.From})
			p.send(swim.Msg{Kind: 1, To: m.Target, Seq: p.number})
		}
	case 2:
		if p.probe != nil && p.probe.number == m.Seq {
			p.probe.answered = true
		}
		was := p.relays
		p.relays = nil
		for _, r := range was {
			if r.number == m.Seq {
				p.send(swim.Msg{Kind: 2, To: r.whom, Seq: r.seq})
			} else {
				p.relays = append(p.relays, r)
			}
		}
	}
	return p.sent
}

func (p *plain) hear(node int, i member.Info) {
	r := &p.rows[node]
	switch {
	case node == p.me && i.State != api.Alive:
		r.is.Inc = min(max(r.is.Inc, i.Inc)+1, api.MaxTicks) // whether that is new or not
	case i.Inc > r.is.Inc || i.Inc == r.is.Inc && i.State > r.is.State:
		r.is = i
		if i.State == api.Suspect {
			r.since = p.now
		}
	default:
		return
	}
	p.tell(node)
}

// both is a part and a plain one, of which the same is asked.
type both struct {
	s *swim.Swim
	p *plain
}

func pair(t testing.TB, me, nodes int) both {
	return both{made(t, me, nodes), &plain{me: me, rows: make([]row, nodes)}}
}

// agree fails unless both see all alike.
func (b both) agree(t testing.TB) {
	t.Helper()
	v := b.s.View()
	var live []int
	for node, r := range b.p.rows {
		if v.Get(node) != r.is {
			t.Fatalf("at %d: %d is seen as %v, want %v", b.p.now, node, v.Get(node), r.is)
		}
		if r.is.State != api.Dead {
			live = append(live, node)
		}
	}
	if l := b.s.Live(); !slices.Equal(l, live) || b.s.Now() != b.p.now {
		t.Fatalf("at %d: %v live; want %v at %d", b.s.Now(), l, live, b.p.now)
	}
}

// tick, take: what both send, which is the same.
func (b both) tick(t testing.TB) []swim.Msg {
	t.Helper()
	l, want := b.s.Tick(), b.p.tick()
	if !alike(l, want) {
		t.Fatalf("at %d: Tick = %v, want %v", b.p.now, l, want)
	}
	b.agree(t)
	return l
}

func (b both) take(t testing.TB, m swim.Msg) []swim.Msg {
	t.Helper()
	was := slices.Clone(m.News)
	l, want := b.s.Take(m), b.p.take(m)
	if !alike(l, want) || !slices.Equal(m.News, was) {
		t.Fatalf("at %d: Take(%v) = %v, want %v", b.p.now, m, l, want)
	}
	b.agree(t)
	return l
}

// does asks one thing of both by some numbers.
func (b both) does(t testing.TB, next func() int) {
	t.Helper()
	switch op := next(); {
	case op%16 < 7:
		for range 1 + op/16 {
			b.tick(t)
		}
	case op%16 < 8:
		n := []int{op / 16, -op, math.MinInt + op, math.MaxInt - op}[next()%4]
		b.s.Draw(n)
		b.p.draw(n)
	default:
		b.take(t, b.message(next))
	}
}

// message: one that comes by some numbers, mostly one that can be.
func (b both) message(next func() int) swim.Msg {
	nodes := len(b.p.rows)
	x, y := next(), next()
	m := swim.Msg{Kind: 1 + x%3, To: b.p.me, From: y % nodes, Seq: max(b.p.number-int64(x/3%6), 1), Target: next() % nodes}
	for range next() % 8 % 7 {
		m.News = append(m.News, b.item(next))
	}
	switch y / 16 {
	case 0:
		m.To = y%18 - 1
	case 1:
		m.From = y%18 - 1
	case 2:
		m.Kind = x%6 - 1
	case 3:
		m.Seq = []int64{0, -1, math.MinInt64, math.MaxInt64}[x%4]
	case 4:
		m.Target = x%18 - 1
	case 5:
		m.News = append(m.News, b.item(next), b.item(next))
	}
	return m
}

// item: how one is said to be by some numbers, mostly near to how it is seen.
func (b both) item(next func() int) swim.Item {
	x, y := next(), next()
	i := item(x%len(b.p.rows), y%3, 0)
	i.Info.Inc = max(b.p.rows[i.Node].is.Inc+int64(y/3%4)-2, 0)
	switch x / 16 {
	case 0:
		i.Node = x%18 - 1
	case 1:
		i.Info.State = y%6 - 1
	case 2:
		i.Info.Inc = int64(y)
	case 3:
		if y < 16 {
			i.Info.Inc = api.MaxTicks + 1 - int64(y%4)
		}
	}
	return i
}

// TestByChance holds parts to which things come by chance against plain ones, step by step.
func TestByChance(t *testing.T) {
	rnd := rand.New(rand.NewSource(4))
	for range 600 {
		nodes := 1 + rnd.Intn(16)
		b := pair(t, rnd.Intn(nodes), nodes)
		for range 300 {
			b.does(t, func() int { return rnd.Intn(256) })
		}
	}
}

// TestFleetByChance: parts that send to each other, letters being late, lost and doubled, against plain ones.
func TestFleetByChance(t *testing.T) {
	rnd := rand.New(rand.NewSource(5))
	for range 150 {
		nodes := 2 + rnd.Intn(6)
		var l []both
		for me := range nodes {
			l = append(l, pair(t, me, nodes))
		}
		var flight []swim.Msg
		lost := rnd.Intn(10)
		for range 300 {
			for _, b := range l {
				if rnd.Intn(8) > 0 {
					flight = append(flight, b.tick(t)...)
				}
			}
			for n := rnd.Intn(4 * nodes); n > 0 && len(flight) > 0; n-- {
				i := rnd.Intn(len(flight))
				m := flight[i]
				if rnd.Intn(5) > 0 {
					flight = slices.Delete(flight, i, i+1)
				}
				if rnd.Intn(10) >= lost {
					flight = append(flight, l[m.To].take(t, m)...)
				}
			}
		}
	}
}

// FuzzSwim: whatever comes, in whatever order, a part does as the plain one.
func FuzzSwim(f *testing.F) {
	f.Add([]byte{0, 3, 255, 255, 255, 9, 99, 99, 1, 0, 20, 20}, 1)
	f.Add([]byte{2, 4, 15, 255, 7, 3, 24, 98, 101, 0, 2, 100, 3, 99, 4, 255, 255}, 4)
	f.Fuzz(func(t *testing.T, script []byte, nodes int) {
		if nodes < 1 || nodes > 16 || len(script) == 0 {
			return
		}
		b := pair(t, int(script[0])%nodes, nodes)
		i := 0
		for i < min(len(script), 1000)-1 {
			b.does(t, func() int {
				i = min(i+1, len(script)-1)
				return int(script[i])
			})
		}
	})
}

package swim_test

import (
	"math"
	"slices"
	"testing"

	"steelyard/api"
	"steelyard/swim"
)

// pinged: whom a part pings in its next turns; each ping is answered, so that nobody is doubted.
func pinged(t *testing.T, s *swim.Swim, me, turns int) []int {
	t.Helper()
	var l []int
	for range turns {
		until(t, s, s.Now()/swim.Period*swim.Period+swim.Period)
		sent := s.Tick()
		if len(sent) == 0 {
			l = append(l, -1)
			continue
		}
		m := sent[0]
		if len(sent) != 1 || m.Kind != swim.Ping || m.From != me || m.Target != 0 {
			t.Fatalf("at %d: %v", s.Now(), sent)
		}
		takes(t, s, ack(m.To, me, m.Seq))
		l = append(l, m.To)
	}
	return l
}

// TestTurns: those that are there, one behind the other, and in each fourth turn all, one behind the other.
func TestTurns(t *testing.T) {
	for _, c := range []struct {
		me, nodes int
		want      []int
	}{
		{0, 2, []int{1, 1, 1, 1, 1, 1, 1, 1}},
		{1, 2, []int{0, 0, 0, 0, 0}},
		{0, 3, []int{1, 2, 1, 1, 2, 1, 2, 2, 1, 2, 1, 1, 2}},
		{1, 4, []int{0, 2, 3, 0, 0, 2, 3, 2, 0, 2, 3, 3, 0, 2, 3, 0}},
		{4, 5, []int{0, 1, 2, 0, 3, 0, 1, 1, 2, 3, 0, 2, 1, 2, 3, 3, 0}},
	} {
		if l := pinged(t, made(t, c.me, c.nodes), c.me, len(c.want)); !slices.Equal(l, c.want) {
			t.Errorf("%d of %d pings %v, want %v", c.me, c.nodes, l, c.want)
		}
	}
}

// quiet: a part that sees some as Dead, with no news left.
func quiet(t *testing.T, me, nodes, from int, dead ...int) *swim.Swim {
	t.Helper()
	s := made(t, me, nodes)
	for _, node := range dead {
		s.Take(ack(from, me, 999, item(node, api.Dead, 3)))
		sees(t, s, node, api.Dead, 3)
	}
	for len(s.Take(ping(from, me, 5))[0].News) > 0 {
	}
	return s
}

// TestTurnsOfDead: those that are given up are pinged in each fourth turn alone.
func TestTurnsOfDead(t *testing.T) {
	for _, c := range []struct {
		dead, want []int
	}{
		{[]int{1}, []int{0, 3, 4, 0, 0, 3, 4, 1, 0, 3, 4, 3, 0, 3, 4, 4, 0, 3, 4, 0}},
		{[]int{0, 3, 4}, []int{1, 1, 1, 0, 1, 1, 1, 1, 1, 1, 1, 3, 1, 1, 1, 4}},
	} {
		from := 3 // not Dead, and pinged now and then
		if slices.Contains(c.dead, from) {
			from = 1
		}
		s := quiet(t, 2, 5, from, c.dead...)
		var l []int
		for range c.want {
			for range swim.Period - 1 {
				ticks(t, s)
			}
			m := s.Tick()[0]
			s.Take(ack(from, 2, m.Seq)) // whoever answers
			l = append(l, m.To)
		}
		if !slices.Equal(l, c.want) {
			t.Errorf("of Dead %v: %v, want %v", c.dead, l, c.want)
		}
	}
}

// allDead: a part that sees all others as Dead, with no news left; nobody can answer it without being told of.
func allDead(t *testing.T, me, nodes int) *swim.Swim {
	t.Helper()
	s := made(t, me, nodes)
	for node := range nodes {
		if node != me {
			s.Take(ack((me+1)%nodes, me, 999, item(node, api.Dead, 3)))
		}
	}
	if !slices.Equal(s.Live(), []int{me}) {
		t.Fatalf("Live = %v", s.Live())
	}
	return s
}

// bare: messages without their news.
func bare(l []swim.Msg) []swim.Msg {
	for i := range l {
		l[i].News = nil
	}
	return l
}

// TestTurnsOfNobody: where all are given up, three turns of four go by without a ping, and no number is used up, neither of its own nor a drawn one.
func TestTurnsOfNobody(t *testing.T) {
	s := allDead(t, 0, 4)
	s.Draw(2)
	s.Draw(0)
	for _, want := range []struct {
		at      int64
		to, seq int
	}{
		{40, 3, 1}, {80, 1, 2}, {120, 3, 3}, {160, 1, 4}, {200, 2, 5},
	} {
		for s.Now() < want.at-1 {
			if l := s.Tick(); len(l) > 0 {
				t.Fatalf("at %d: %v", s.Now(), l)
			}
		}
		if l := bare(s.Tick()); !alike(l, []swim.Msg{ping(0, want.to, int64(want.seq))}) {
			t.Fatalf("at %d: %v, want %v", s.Now(), l, want)
		}
	}
}

// TestDraw: numbers that are drawn choose, one behind the other, going round, then the turns go on as if none had been.
func TestDraw(t *testing.T) {
	s := made(t, 1, 4) // others 0, 2, 3
	for _, n := range []int{2, 1, 0, 3, 4, 301, -1, -2, -3, -4, math.MinInt, math.MaxInt} {
		s.Draw(n)
	}
	want := []int{3, 2, 0, 0, 2, 2, 3, 2, 0, 3}
	want = append(want, []int{0, 2, 3}[(math.MinInt%3+3)%3], []int{0, 2, 3}[math.MaxInt%3])
	want = append(want, 0, 2, 3, 0, 0) // the turns 12 to 16
	if l := pinged(t, s, 1, len(want)); !slices.Equal(l, want) {
		t.Errorf("pings %v, want %v", l, want)
	}
	for range 3 { // one that is drawn later chooses in the next turn
		s.Draw(1)
		if l := pinged(t, s, 1, 1); l[0] != 2 {
			t.Errorf("pings %v", l)
		}
	}
}

// TestDrawOfDead: what is drawn is a place among those that may be pinged in that turn.
func TestDrawOfDead(t *testing.T) {
	s := quiet(t, 0, 5, 4, 1, 2)
	for range 8 {
		s.Draw(1)
	}
	var l []int
	for range 8 {
		for range swim.Period - 1 {
			s.Tick()
		}
		m := s.Tick()[0]
		s.Take(ack(4, 0, m.Seq))
		l = append(l, m.To)
	}
	if !slices.Equal(l, []int{4, 4, 4, 2, 4, 4, 4, 2}) {
		t.Errorf("pings %v", l)
	}
}

// TestDrawOfMany: a thousand numbers are kept, and room comes as they are used up.
func TestDrawOfMany(t *testing.T) {
	s := made(t, 0, 3) // others 1, 2
	for i := range 1000 {
		s.Draw(i / 2)
	}
	s.Draw(1)
	s.Draw(1)
	turn := func(want int) {
		t.Helper()
		if l := pinged(t, s, 0, 1); l[0] != want {
			t.Fatalf("at %d: pings %v, want %d", s.Now(), l, want)
		}
	}
	turn(1)
	s.Draw(0) // in place of the one that is used up
	s.Draw(1) // too many again
	for i := 1; i < 1000; i++ {
		turn(1 + i/2%2)
	}
	turn(1)
	for turns := 1001; turns < 1012; turns++ { // as if none had been drawn
		if turns%4 == 3 {
			turn(1 + turns/4%2)
		} else {
			turn(1 + (turns-turns/4)%2)
		}
	}
}

// TestReq: three ticks behind a ping that was not answered the first two behind the target are asked for help.
func TestReq(t *testing.T) {
	for _, c := range []struct {
		me, nodes, place int
		dead, want       []int
	}{
		{0, 2, 0, nil, nil},
		{0, 3, 0, nil, []int{2}},
		{0, 3, 1, nil, []int{1}},
		{0, 4, 0, nil, []int{2, 3}},
		{0, 4, 1, nil, []int{3, 1}},
		{0, 4, 2, nil, []int{1, 2}},
		{1, 6, 0, nil, []int{2, 3}},
		{1, 6, 4, nil, []int{0, 2}},
		{2, 6, 1, nil, []int{3, 4}},
		{3, 16, 14, nil, []int{0, 1}},
		{3, 16, 13, nil, []int{15, 0}},
		{0, 6, 0, []int{2, 4}, []int{3, 5}},
		{0, 6, 0, []int{2, 3, 4}, []int{5}},
		{3, 6, 2, []int{1}, []int{5, 0}},
	} {
		from := (c.me + c.nodes - 1) % c.nodes
		s := quiet(t, c.me, c.nodes, from, c.dead...)
		s.Draw(c.place)
		until(t, s, 10)
		p := s.Tick()[0]
		until(t, s, 13)
		var want []swim.Msg
		for _, to := range c.want {
			want = append(want, req(c.me, to, 1, p.To))
		}
		ticks(t, s, want...)
		until(t, s, 20)
	}
}

// TestReqToDoubted: one that is doubted is asked, and asked for, too.
func TestReqToDoubted(t *testing.T) {
	s := made(t, 0, 3)
	takes(t, s, ack(1, 0, 99, item(2, api.Suspect, 0)))
	until(t, s, 10)
	l := []swim.Item{item(2, api.Suspect, 0)}
	ticks(t, s, ping(0, 1, 1, l...))
	until(t, s, 13)
	ticks(t, s, req(0, 2, 1, 1, l...))
}

// TestReqForDead: one that was given up is asked for.
func TestReqForDead(t *testing.T) {
	s := allDead(t, 1, 3)
	takes(t, s, ping(2, 1, 5, item(2, api.Alive, 4)), ack(1, 2, 5, item(0, api.Dead, 3), item(2, api.Alive, 4)))
	s.Draw(0)
	s.Draw(0)
	s.Draw(0)
	s.Draw(0) // the fourth turn is of all
	for s.Now() < 40 {
		for _, m := range s.Tick() {
			if m.Kind == swim.Ping && m.To == 2 {
				s.Take(ack(2, 1, m.Seq))
			}
		}
	}
	until(t, s, 43)
	if l := bare(s.Tick()); !alike(l, []swim.Msg{req(1, 2, 4, 0)}) {
		t.Errorf("Tick = %v", l)
	}
	for range 7 {
		s.Tick()
	}
	sees(t, s, 0, api.Dead, 3) // it is given up as it was
}

// TestAnswered: whoever answered a ping is neither asked for nor doubted; the number alone plays a part.
func TestAnswered(t *testing.T) {
	for at := int64(10); at < 20; at++ {
		for from := 1; from < 4; from++ {
			s := made(t, 0, 4)
			until(t, s, 10)
			ticks(t, s, ping(0, 1, 1))
			for s.Now() < at {
				want := 0
				if s.Now() == 12 {
					want = 2
				}
				if l := s.Tick(); len(l) != want {
					t.Fatalf("at %d: %v", s.Now(), l)
				}
			}
			takes(t, s, ack(from, 0, 1))
			takes(t, s, ack(from, 0, 1))
			until(t, s, 20)
			ticks(t, s, ping(0, 2, 2))
			sees(t, s, 1, api.Alive, 0)
		}
	}
}

// TestAnsweredByOthers: an Ack of another number, or another kind of message, is no answer.
func TestAnsweredByOthers(t *testing.T) {
	for _, m := range []swim.Msg{ack(1, 0, 2), ack(1, 0, math.MaxInt64), ping(1, 0, 1), req(1, 0, 1, 0), ack(1, 0, 0), ack(1, 2, 1), ack(0, 0, 1)} {
		s := made(t, 0, 3)
		takes(t, s, ack(1, 0, 1)) // ahead of the ping
		until(t, s, 10)
		ticks(t, s, ping(0, 1, 1))
		s.Take(m)
		until(t, s, 13)
		ticks(t, s, req(0, 2, 1, 1))
		until(t, s, 20)
		ticks(t, s, ping(0, 2, 2, item(1, api.Suspect, 0)))
		takes(t, s, ack(1, 0, 1)) // too late: that probe is gone
		sees(t, s, 1, api.Suspect, 0)
	}
}

// TestDoubtOnce: one that is doubted already is so since then, however many pings it does not answer.
func TestDoubtOnce(t *testing.T) {
	s := made(t, 0, 2)
	for s.Now() < 49 {
		s.Tick()
	}
	sees(t, s, 1, api.Suspect, 0) // since 20; at 30 and 40 nothing was answered
	s.Tick()
	sees(t, s, 1, api.Dead, 0)
	for range 200 {
		s.Tick()
	}
	sees(t, s, 1, api.Dead, 0)
}

// TestGiveUp: thirty ticks behind the doubt, whoever had it, at just that tick.
func TestGiveUp(t *testing.T) {
	for at := range int64(25) {
		s := made(t, 0, 3)
		s.Draw(0)
		for s.Now() < at {
			answer(s, s.Tick())
		}
		answer(s, s.Take(ack(1, 0, 99, item(2, api.Suspect, 4))))
		for s.Now() < at+29 {
			sees(t, s, 2, api.Suspect, 4)
			answer(s, s.Tick())
		}
		sees(t, s, 2, api.Suspect, 4)
		l := s.Tick()
		answer(s, l)
		sees(t, s, 2, api.Dead, 4)
		sees(t, s, 1, api.Alive, 0)
		told(t, s, 0, 1, times(6-len(l), item(2, api.Dead, 4))...)
	}
}

// answer: all pings are answered.
func answer(s *swim.Swim, l []swim.Msg) {
	for _, m := range l {
		if m.Kind == swim.Ping {
			s.Take(ack(m.To, m.From, m.Seq))
		}
	}
}

// TestGiveUpOfSome: those that are given up at one tick wait to be told as they rise, ahead of what is sent in it.
func TestGiveUpOfSome(t *testing.T) {
	s := made(t, 1, 6)
	s.Take(ack(4, 1, 99, item(5, api.Suspect, 1), item(0, api.Suspect, 2), item(3, api.Suspect, 3)))
	for len(s.Take(ping(4, 1, 5))[0].News) > 0 {
	}
	for s.Now() < 29 {
		answer(s, s.Tick())
	}
	l := s.Tick()
	news := []swim.Item{item(0, api.Dead, 2), item(3, api.Dead, 3), item(5, api.Dead, 1)}
	if !alike(l, []swim.Msg{ping(1, 2, 3, news...)}) && !alike(l, []swim.Msg{ping(1, 4, 3, news...)}) {
		t.Errorf("at %d: %v", s.Now(), l)
	}
	if !slices.Equal(s.Live(), []int{1, 2, 4}) {
		t.Errorf("Live = %v", s.Live())
	}
}

// TestDoubtAnew: a newer doubt counts from when it is heard; the same one heard again, or an older one, does not.
func TestDoubtAnew(t *testing.T) {
	for _, c := range []struct {
		then  swim.Item
		state int
		inc   int64
		till  int64 // when it is given up
	}{
		{item(2, api.Suspect, 4), api.Suspect, 4, 30},
		{item(2, api.Suspect, 3), api.Suspect, 4, 30},
		{item(2, api.Alive, 4), api.Suspect, 4, 30},
		{item(1, api.Alive, 4), api.Suspect, 4, 30},
		{item(2, api.Suspect, 5), api.Suspect, 5, 45},
		{item(2, 3, 5), api.Suspect, 4, 30},
		{item(2, api.Suspect, -1), api.Suspect, 4, 30},
	} {
		s := made(t, 0, 3)
		s.Take(ack(1, 0, 99, item(2, api.Suspect, 4)))
		for s.Now() < 15 {
			answer(s, s.Tick())
		}
		s.Take(ack(1, 0, 99, c.then))
		for s.Now() < c.till-1 {
			answer(s, s.Tick())
		}
		sees(t, s, 2, c.state, c.inc)
		answer(s, s.Tick())
		sees(t, s, 2, api.Dead, c.inc)
	}
	s := made(t, 0, 3) // it says that it is there
	s.Take(ack(1, 0, 99, item(2, api.Suspect, 4)))
	for s.Now() < 15 {
		answer(s, s.Tick())
	}
	s.Take(ack(1, 0, 99, item(2, api.Alive, 5)))
	for s.Now() < 50 {
		answer(s, s.Tick())
		sees(t, s, 2, api.Alive, 5)
	}
}

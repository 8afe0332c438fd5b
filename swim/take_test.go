package swim_test

import (
	"math"
	"slices"
	"testing"

	"steelyard/api"
	"steelyard/member"
	"steelyard/swim"
)

// TestPing: whoever pings gets Ack of its number, whatever number that is.
func TestPing(t *testing.T) {
	s := made(t, 1, 3)
	for _, seq := range []int64{1, 2, 77, api.MaxTicks, api.MaxTicks + 1, math.MaxInt64} {
		takes(t, s, ping(0, 1, seq), ack(1, 0, seq))
		takes(t, s, ping(2, 1, seq), ack(1, 2, seq))
	}
	m := ping(0, 1, 7)
	m.Target = 2 // plays no part
	takes(t, s, m, ack(1, 0, 7))
}

// wrongs: messages that are none for the part 1 of three, all with news that would be heard.
func wrongs() []swim.Msg {
	news := []swim.Item{item(2, api.Suspect, 4), item(1, api.Dead, 2)}
	var l []swim.Msg
	for kind := swim.Ping; kind <= swim.Req; kind++ {
		m := swim.Msg{Kind: kind, To: 1, Seq: 1, Target: 2, News: news}
		for _, node := range append(noNodes(3), 0, 2) {
			x := m
			x.To = node
			l = append(l, x)
		}
		for _, node := range append(noNodes(3), 1) {
			x := m
			x.From = node
			l = append(l, x)
		}
		for _, seq := range []int64{math.MinInt64, -api.MaxTicks, -1, 0} {
			x := m
			x.Seq = seq
			l = append(l, x)
		}
		for _, many := range []int{7, 8, 17, 1000} {
			x := m
			x.News = slices.Repeat(news, many)[:many]
			l = append(l, x)
		}
	}
	for _, kind := range []int{math.MinInt, -1, 0, 4, 5, 255, 1<<32 + 1, math.MaxInt} {
		l = append(l, swim.Msg{Kind: kind, To: 1, Seq: 1, Target: 2, News: news})
	}
	return l
}

// TestTakeOfWrong: they change nothing, now or later; with a probe and a relay there is what could be changed.
func TestTakeOfWrong(t *testing.T) {
	for _, m := range wrongs() {
		s, twin := made(t, 1, 3), made(t, 1, 3)
		for s.Now() < 11 {
			if l, same := s.Tick(), twin.Tick(); !alike(l, same) {
				t.Fatalf("at %d: %v, %v", s.Now(), l, same)
			}
		}
		for _, x := range []swim.Msg{req(2, 1, 5, 0), ack(0, 1, 8, item(2, api.Dead, 0))} {
			takes(t, s, x, twin.Take(x)...)
		}
		takes(t, s, m)
		if !s.View().Same(twin.View()) {
			t.Fatalf("behind %v: %v, %v", m, s.View().Bytes(), twin.View().Bytes())
		}
		for s.Now() < 70 {
			if l, same := s.Tick(), twin.Tick(); !alike(l, same) || !s.View().Same(twin.View()) {
				t.Fatalf("behind %v: at %d: %v, %v", m, s.Now(), l, same)
			}
		}
	}
}

// TestSixNews: as many as there may be are heard.
func TestSixNews(t *testing.T) {
	s := made(t, 0, 8)
	var l []swim.Item
	for node := 2; node < 8; node++ {
		l = append(l, item(node, node%3, int64(node)))
	}
	takes(t, s, ping(1, 0, 5, l...), ack(0, 1, 5, l...))
	for _, i := range l {
		sees(t, s, i.Node, i.Info.State, i.Info.Inc)
	}
}

// TestHearOfWrong: news that can't be do nothing; those behind them are heard.
func TestHearOfWrong(t *testing.T) {
	var l []swim.Item
	for node := range 3 {
		for _, i := range []member.Info{
			{State: -1}, {State: 3}, {State: math.MaxInt, Inc: 5}, {State: 1<<32 + 1}, {State: api.Dead, Inc: -1}, {State: api.Dead, Inc: api.MaxTicks + 1},
			{State: api.Suspect, Inc: math.MinInt64}, {Inc: math.MaxInt64}, {State: 3, Inc: api.MaxTicks + 1},
		} {
			l = append(l, swim.Item{Node: node, Info: i})
		}
	}
	for _, node := range noNodes(3) {
		l = append(l, item(node, api.Dead, 5), item(node, api.Alive, 5))
	}
	s := made(t, 0, 3)
	for _, i := range l {
		takes(t, s, ping(1, 0, 5, i), ack(0, 1, 5))
		if !s.View().Same(made(t, 0, 3).View()) {
			t.Fatalf("of %v: %v", i, s.View().Bytes())
		}
	}
	for i, wrong := range l {
		n := int64(i + 1)
		takes(t, s, ping(1, 0, 5, wrong, item(2, api.Alive, n)), ack(0, 1, 5, item(2, api.Alive, n)))
	}
}

// TestNews: what is new is told as often as Times says, once a message; what is not is not told again.
func TestNews(t *testing.T) {
	for _, c := range [][2]int{{2, 6}, {3, 6}, {4, 9}, {7, 9}, {8, 12}, {15, 12}, {16, 15}} {
		nodes, n := c[0], c[1]
		for _, state := range []int{api.Alive, api.Suspect, api.Dead} {
			s := made(t, 0, nodes)
			i := item(nodes-1, state, 3)
			for range 3 {
				s.Take(ack(1, 0, 99, i)) // nothing is sent, so all of them are told still
			}
			if nodes == 2 && state > 0 { // from one that is doubted: that is told with each message from it
				continue
			}
			told(t, s, 0, 1, times(n, i)...)
			takes(t, s, ping(1, 0, 5, i), ack(0, 1, 5))
			takes(t, s, ping(1, 0, 5, item(nodes-1, api.Dead, 2)), ack(0, 1, 5))
			takes(t, s, ping(1, 0, 5, item(nodes-1, state, 4)), ack(0, 1, 5, item(nodes-1, state, 4)))
		}
	}
}

// TestNewsAsTheyWere: an older news makes way for a newer one of the same replica, which is told as often as any.
func TestNewsAsTheyWere(t *testing.T) {
	s := made(t, 0, 3)
	s.Take(ack(1, 0, 99, item(2, api.Suspect, 1)))
	takes(t, s, ping(1, 0, 5), ack(0, 1, 5, item(2, api.Suspect, 1)))
	s.Take(ack(1, 0, 99, item(2, api.Alive, api.MaxTicks)))
	told(t, s, 0, 1, times(6, item(2, api.Alive, api.MaxTicks))...)
	s = made(t, 0, 3)
	s.Take(ack(1, 0, 99, item(2, api.Suspect, 1), item(2, api.Dead, 1), item(2, api.Alive, 1)))
	told(t, s, 0, 1, times(6, item(2, api.Dead, 1))...)
}

// TestSixOfMore: a message takes six news, those that were told least first, then the least replicas.
func TestSixOfMore(t *testing.T) {
	s := made(t, 0, 10)
	var l []swim.Item
	for node := 2; node < 10; node++ {
		l = append(l, item(node, api.Alive, int64(node)))
	}
	s.Take(ack(1, 0, 99, l[2:]...))
	s.Take(ack(1, 0, 99, l[:2]...))
	next := func(want ...swim.Item) {
		t.Helper()
		takes(t, s, ping(1, 0, 5), ack(0, 1, 5, want...))
	}
	for range 3 { // each is told three times in four messages
		next(l[0], l[1], l[2], l[3], l[4], l[5])
		next(l[6], l[7], l[0], l[1], l[2], l[3])
		next(l[4], l[5], l[6], l[7], l[0], l[1])
		next(l[2], l[3], l[4], l[5], l[6], l[7])
	}
	s.Take(ack(1, 0, 99, item(9, api.Dead, 9)))
	next(item(9, api.Dead, 9), l[0], l[1], l[2], l[3], l[4])
}

// TestFromDoubted: one that is not Alive, and sends, is told so, each time; if its message says that it is there, it is Alive ahead of that.
func TestFromDoubted(t *testing.T) {
	for _, state := range []int{api.Suspect, api.Dead} {
		for kind := swim.Ping; kind <= swim.Ack; kind++ {
			s := made(t, 0, 3)
			s.Take(ack(1, 0, 99, item(2, state, 4)))
			told(t, s, 0, 1, times(6, item(2, state, 4))...)
			for range 8 {
				takes(t, s, ping(2, 0, 6), ack(0, 2, 6, item(2, state, 4)))
			}
			told(t, s, 0, 1, times(5, item(2, state, 4))...)
			s.Take(swim.Msg{Kind: kind, To: 0, From: 2, Seq: 99})
			left := 6
			if kind == swim.Ping {
				left = 5
			}
			told(t, s, 0, 1, times(left, item(2, state, 4))...)
			takes(t, s, ping(2, 0, 6, item(2, api.Alive, 5)), ack(0, 2, 6, item(2, api.Alive, 5)))
			told(t, s, 0, 1, times(5, item(2, api.Alive, 5))...)
			takes(t, s, ping(2, 0, 6), ack(0, 2, 6))
		}
	}
	s := made(t, 0, 3) // what it says of itself comes ahead
	takes(t, s, ping(2, 0, 6, item(2, api.Suspect, 4)), ack(0, 2, 6, item(2, api.Suspect, 4)))
	s = made(t, 0, 3) // it is told of the one that sends alone
	s.Take(ack(1, 0, 99, item(2, api.Dead, 4)))
	told(t, s, 0, 1, times(6, item(2, api.Dead, 4))...)
}

// TestReqIsHelp: the target is pinged under a number of its own; whoever asked gets Ack of the number that it asked by, once.
func TestReqIsHelp(t *testing.T) {
	s := made(t, 0, 4)
	takes(t, s, req(1, 0, 77, 2), ping(0, 2, 1))
	takes(t, s, req(3, 0, 77, 1), ping(0, 1, 2))
	takes(t, s, req(1, 0, math.MaxInt64, 2), ping(0, 2, 3))
	takes(t, s, ack(2, 0, 4))
	takes(t, s, ack(2, 0, 77))
	takes(t, s, ack(2, 0, 3), ack(0, 1, math.MaxInt64))
	takes(t, s, ack(3, 0, 1), ack(0, 1, 77)) // from whom it comes plays no part
	takes(t, s, ack(1, 0, 2), ack(0, 3, 77))
	for seq := range int64(5) {
		takes(t, s, ack(2, 0, seq))
	}
	until(t, s, 10)
	ticks(t, s, ping(0, 1, 4)) // its own numbers go on
	takes(t, s, req(1, 0, 4, 3), ping(0, 3, 5))
	until(t, s, 13)
	ticks(t, s, req(0, 2, 4, 1), req(0, 3, 4, 1))
	takes(t, s, ack(3, 0, 5), ack(0, 1, 4))
	until(t, s, 20)
	ticks(t, s, ping(0, 2, 6, item(1, api.Suspect, 0))) // that was no answer to its own
}

// TestReqForNobody: for me, for the one who asks, or for none nothing is sent, and no number used up; the news are heard.
func TestReqForNobody(t *testing.T) {
	s := made(t, 1, 3)
	for i, target := range append(noNodes(3), 1, 0) {
		takes(t, s, req(0, 1, 5, target, item(2, api.Alive, int64(i+1))))
		sees(t, s, 2, api.Alive, int64(i+1))
	}
	takes(t, s, req(0, 1, 5, 2), ping(1, 2, 1, item(2, api.Alive, 12)))
}

// TestReqForAnyState: one that is doubted or given up is pinged, too.
func TestReqForAnyState(t *testing.T) {
	for _, state := range []int{api.Suspect, api.Dead} {
		s := made(t, 0, 3)
		takes(t, s, req(1, 0, 5, 2, item(2, state, 3)), ping(0, 2, 1, item(2, state, 3)))
		takes(t, s, req(2, 0, 5, 1), ping(0, 1, 2, item(2, state, 3)))
	}
}

// TestRelaysInTime: for ten ticks there is a relay, then it is gone.
func TestRelaysInTime(t *testing.T) {
	for at := range int64(12) {
		for late := range int64(13) {
			s := made(t, 0, 3)
			for s.Now() < at {
				answer(s, s.Tick())
			}
			n := at / 10 // of its own, ahead
			takes(t, s, req(1, 0, 5, 2), ping(0, 2, n+1))
			for s.Now() < at+late {
				answer(s, s.Tick())
			}
			if late < 10 {
				takes(t, s, ack(2, 0, n+1), ack(0, 1, 5))
			}
			takes(t, s, ack(2, 0, n+1))
		}
	}
}

// TestSixteenRelays: for one more nothing is sent, till there is room again, by an answer or by time.
func TestSixteenRelays(t *testing.T) {
	s := made(t, 0, 3)
	ask := func(n, own int64) {
		t.Helper()
		takes(t, s, req(1, 0, n, 2), ping(0, 2, own))
	}
	for n := int64(1); n <= 8; n++ {
		ask(n+100, n)
	}
	ticks(t, s)
	for n := int64(9); n <= 16; n++ {
		ask(n+100, n)
	}
	takes(t, s, req(1, 0, 5, 2, item(2, api.Alive, 9)))
	takes(t, s, req(2, 0, 5, 1))
	sees(t, s, 2, api.Alive, 9)
	told(t, s, 0, 1, times(6, item(2, api.Alive, 9))...)
	takes(t, s, ack(2, 0, 3), ack(0, 1, 103))
	ask(6, 17)
	takes(t, s, req(1, 0, 7, 2))
	until(t, s, 10)
	ticks(t, s, ping(0, 1, 18)) // the first eight, but one, are gone
	takes(t, s, ack(1, 0, 18))
	takes(t, s, ack(1, 0, 8))
	for n := int64(19); n <= 25; n++ {
		ask(n+100, n)
	}
	takes(t, s, req(1, 0, 7, 2))
	takes(t, s, ack(1, 0, 9), ack(0, 1, 109))
}

// TestSaysItIsThere is P16.6: who is said to be Suspect or Dead says that it is there, and who hears that sees it Alive.
func TestSaysItIsThere(t *testing.T) {
	const top = api.MaxTicks
	for _, state := range []int{api.Suspect, api.Dead} {
		for _, c := range []struct{ mine, said, then int64 }{
			{0, 0, 1}, {0, 1, 2}, {0, 77, 78}, {5, 5, 6}, {5, 4, 6}, {5, 0, 6}, {5, 9, 10}, {5, top - 1, top},
			{top - 1, top - 1, top}, {top - 1, top - 2, top}, {top - 1, 0, top}, {0, top, top}, {top, top, top}, {top, 0, top},
		} {
			s, by := made(t, 1, 3), made(t, 2, 3)
			if c.mine > 0 {
				s.Take(ack(0, 1, 99, item(1, api.Alive, c.mine)))
				told(t, s, 1, 0, times(6, item(1, api.Alive, c.mine))...)
			}
			sees(t, s, 1, api.Alive, c.mine)
			by.Take(ack(0, 2, 99, item(1, state, c.said)))
			l := s.Take(ping(2, 1, 5, item(1, state, c.said)))
			sees(t, s, 1, api.Alive, c.then)
			if !alike(l, []swim.Msg{ack(1, 2, 5, item(1, api.Alive, c.then))}) {
				t.Fatalf("mine was %d, of %d it sends %v", c.mine, c.said, l)
			}
			told(t, s, 1, 0, times(5, item(1, api.Alive, c.then))...)
			by.Take(l[0])
			if c.said == top {
				sees(t, by, 1, state, top)
			} else {
				sees(t, by, 1, api.Alive, c.then)
			}
		}
	}
}

// TestSaidTwice: each word that me is gone makes mine one more, also within one message.
func TestSaidTwice(t *testing.T) {
	s := made(t, 0, 2)
	dead := item(0, api.Dead, 0)
	takes(t, s, ping(1, 0, 5, dead), ack(0, 1, 5, item(0, api.Alive, 1)))
	takes(t, s, ping(1, 0, 5, dead, dead, item(0, api.Suspect, 2)), ack(0, 1, 5, item(0, api.Alive, 4)))
	takes(t, s, ping(1, 0, 5, item(0, api.Alive, 4), item(0, api.Alive, 0)), ack(0, 1, 5, item(0, api.Alive, 4)))
	takes(t, s, ping(1, 0, 5, item(0, api.Alive, 9)), ack(0, 1, 5, item(0, api.Alive, 9)))
	sees(t, s, 0, api.Alive, 9)
}

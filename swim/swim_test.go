package swim_test

import (
	"math"
	"slices"
	"testing"

	"steelyard/api"
	"steelyard/member"
	"steelyard/swim"
)

// made: a part.
func made(t testing.TB, me, nodes int) *swim.Swim {
	t.Helper()
	s, e := swim.New(me, nodes)
	if s == nil || e != api.OK {
		t.Fatalf("New(%d, %d) = %v, %d", me, nodes, s, e)
	}
	return s
}

// item: a replica is said to be so.
func item(node, state int, inc int64) swim.Item {
	return swim.Item{Node: node, Info: member.Info{State: state, Inc: inc}}
}

// ping, ack, req: messages.
func ping(from, to int, seq int64, news ...swim.Item) swim.Msg {
	return swim.Msg{Kind: swim.Ping, To: to, From: from, Seq: seq, News: news}
}

func ack(from, to int, seq int64, news ...swim.Item) swim.Msg {
	return swim.Msg{Kind: swim.Ack, To: to, From: from, Seq: seq, News: news}
}

func req(from, to int, seq int64, target int, news ...swim.Item) swim.Msg {
	return swim.Msg{Kind: swim.Req, To: to, From: from, Seq: seq, Target: target, News: news}
}

// alike: are these the same messages?
func alike(a, b []swim.Msg) bool {
	return slices.EqualFunc(a, b, func(x, y swim.Msg) bool {
		news := slices.Equal(x.News, y.News)
		x.News, y.News = nil, nil
		return news && x.Kind == y.Kind && x.To == y.To && x.From == y.From && x.Seq == y.Seq && x.Target == y.Target
	})
}

// takes fails unless these are sent for a message.
func takes(t testing.TB, s *swim.Swim, m swim.Msg, want ...swim.Msg) {
	t.Helper()
	if l := s.Take(m); !alike(l, want) {
		t.Fatalf("at %d: Take(%v) = %v, want %v", s.Now(), m, l, want)
	}
}

// ticks fails unless these are sent at the next tick.
func ticks(t testing.TB, s *swim.Swim, want ...swim.Msg) {
	t.Helper()
	if l := s.Tick(); !alike(l, want) {
		t.Fatalf("at %d: Tick = %v, want %v", s.Now(), l, want)
	}
}

// until fails if anything is sent at the ticks ahead of that time.
func until(t testing.TB, s *swim.Swim, time int64) {
	t.Helper()
	for s.Now() < time-1 {
		ticks(t, s)
	}
}

// sees fails unless one is seen so.
func sees(t testing.TB, s *swim.Swim, node, state int, inc int64) {
	t.Helper()
	if i := s.View().Get(node); i != (member.Info{State: state, Inc: inc}) {
		t.Fatalf("at %d: %d is seen as %v, want %d of %d", s.Now(), node, i, state, inc)
	}
}

// told fails unless the news that the next messages take along are these, and none behind them. It takes Ack of a ping as such a message.
func told(t testing.TB, s *swim.Swim, me, other int, want ...[]swim.Item) {
	t.Helper()
	for _, news := range want {
		takes(t, s, ping(other, me, 5), ack(me, other, 5, news...))
	}
	takes(t, s, ping(other, me, 5), ack(me, other, 5))
}

// times: the same news so many times.
func times(n int, news ...swim.Item) [][]swim.Item {
	return slices.Repeat([][]swim.Item{news}, n)
}

// noNodes: numbers that no replica of so many has.
func noNodes(nodes int) []int {
	return []int{math.MinInt, -16, -1, nodes, nodes + 1, 17, 255, 1 << 32, 1<<32 + 1, math.MaxInt}
}

func TestNew(t *testing.T) {
	for nodes := 1; nodes <= 16; nodes++ {
		for me := range nodes {
			s := made(t, me, nodes)
			v, _ := member.New(me, nodes)
			if !s.View().Same(v) || s.Now() != 0 || !slices.Equal(s.Live(), v.Live()) {
				t.Errorf("New(%d, %d): %v, %d, %v", me, nodes, s.View().Bytes(), s.Now(), s.Live())
			}
		}
	}
	for _, c := range [][2]int{
		{0, 0}, {0, -1}, {0, 17}, {0, math.MinInt}, {0, math.MaxInt}, {-1, 0}, {16, 17}, {16, 16}, {17, 16}, {1, 1}, {3, 3}, {4, 3},
		{-1, 1}, {-1, 16}, {math.MinInt, 3}, {math.MaxInt, 3}, {1 << 32, 3}, {0, 1 << 32}, {0, 1<<32 + 1},
	} {
		if s, e := swim.New(c[0], c[1]); s != nil || e != api.ErrArg {
			t.Errorf("New(%d, %d) = %v, %d", c[0], c[1], s, e)
		}
	}
}

// of0 fails unless there is nobody, at that time.
func of0(t *testing.T, s *swim.Swim, now int64) {
	t.Helper()
	for _, n := range []int{math.MinInt, -1, 0, math.MaxInt} {
		s.Draw(n)
		takes(t, s, ping(1, 0, 5, item(0, api.Dead, 5)))
		takes(t, s, req(n, 0, 5, 1))
		takes(t, s, ack(1, n, 1))
	}
	if s.Now() != now || len(s.Live()) != 0 {
		t.Errorf("at %d, want %d; %v live", s.Now(), now, s.Live())
	}
}

func TestOfNil(t *testing.T) {
	var s *swim.Swim
	for range 25 {
		ticks(t, s)
	}
	of0(t, s, 0)
	if s.View() != nil {
		t.Errorf("View = %v", s.View())
	}
}

// TestOfNoNew: one that New did not make sees nobody, and panics at nothing.
func TestOfNoNew(t *testing.T) {
	s := new(swim.Swim)
	for now := range int64(50) {
		of0(t, s, now)
		ticks(t, s)
	}
	if len(s.View().Live()) != 0 {
		t.Errorf("View = %v", s.View())
	}
}

// TestExample is the document's.
func TestExample(t *testing.T) {
	s := made(t, 0, 2)
	until(t, s, 10)
	ticks(t, s, ping(0, 1, 1))
	until(t, s, 20)
	sees(t, s, 1, api.Alive, 0)
	ticks(t, s, ping(0, 1, 2, item(1, api.Suspect, 0)))
	sees(t, s, 1, api.Suspect, 0)
	for s.Now() < 49 {
		s.Tick()
	}
	sees(t, s, 1, api.Suspect, 0)
	s.Tick()
	sees(t, s, 1, api.Dead, 0)
	if s.Now() != 50 || !slices.Equal(s.Live(), []int{0}) {
		t.Errorf("at %d: %v", s.Now(), s.Live())
	}
}

// TestAlone: one alone sends nothing, whatever is drawn.
func TestAlone(t *testing.T) {
	s := made(t, 0, 1)
	s.Draw(3)
	until(t, s, 200)
	for _, from := range append(noNodes(1), 0, 1) {
		for kind := swim.Ping; kind <= swim.Req; kind++ {
			takes(t, s, swim.Msg{Kind: kind, From: from, Seq: 1, News: []swim.Item{item(0, api.Dead, 5)}})
		}
	}
	sees(t, s, 0, api.Alive, 0)
}

// TestCopies: what is answered is the caller's.
func TestCopies(t *testing.T) {
	s := made(t, 0, 3)
	v := s.View()
	if _, e := v.Bury(1); e != api.OK {
		t.Fatalf("Bury: %d", e)
	}
	clear(s.Live())
	sees(t, s, 1, api.Alive, 0)
	if !slices.Equal(s.Live(), []int{0, 1, 2}) {
		t.Errorf("Live = %v", s.Live())
	}
	takes(t, s, ping(1, 0, 5, item(2, api.Dead, 3)), ack(0, 1, 5, item(2, api.Dead, 3)))
	if w := s.View(); v.Get(2) != (member.Info{}) || w.Same(v) {
		t.Errorf("%v, %v", v.Bytes(), w.Bytes())
	}
	m := ping(1, 0, 6, item(1, api.Alive, 2), item(2, api.Alive, 4))
	l := s.Take(m)
	want := []swim.Item{item(1, api.Alive, 2), item(2, api.Alive, 4)}
	if len(l) != 1 || !slices.Equal(l[0].News, want) || !slices.Equal(m.News, want) {
		t.Fatalf("Take = %v, of %v", l, m)
	}
	clear(m.News)
	clear(l[0].News[:cap(l[0].News)])
	takes(t, s, ping(1, 0, 7), ack(0, 1, 7, want...))
	sees(t, s, 1, api.Alive, 2)
	sees(t, s, 2, api.Alive, 4)
}

// TestListsOfOneAnswer: no two messages of one answer have the same memory.
func TestListsOfOneAnswer(t *testing.T) {
	s := made(t, 0, 4)
	until(t, s, 10)
	ticks(t, s, ping(0, 1, 1))
	takes(t, s, ack(2, 0, 9, item(3, api.Alive, 7)))
	until(t, s, 13)
	l := s.Tick()
	want := []swim.Item{item(3, api.Alive, 7)}
	if !alike(l, []swim.Msg{req(0, 2, 1, 1, want...), req(0, 3, 1, 1, want...)}) {
		t.Fatalf("Tick = %v", l)
	}
	clear(l[0].News[:cap(l[0].News)])
	l[0].News = append(l[0].News, item(9, 9, 9))
	if !slices.Equal(l[1].News, want) {
		t.Errorf("the second one has %v", l[1].News)
	}
}

package swim_test

import (
	"math/rand"
	"testing"

	"steelyard/api"
	"steelyard/member"
	"steelyard/swim"
)

// world is all replicas' parts, and the messages between them.
type world struct {
	rnd    *rand.Rand
	parts  []*swim.Swim
	flight []swim.Msg
	way    int                 // how messages arrive: the first one first, the last one first, by chance, or ahead of the next one's tick
	lost   func(from int) bool // is what it sends lost now?
	drawn  bool                // are numbers drawn by chance?
}

// ways is how many ways there are in which messages arrive within a tick.
const ways = 4

func newWorld(t testing.TB, nodes, way int, rnd *rand.Rand) *world {
	t.Helper()
	w := &world{rnd: rnd, way: way, lost: func(int) bool { return false }}
	for me := range nodes {
		w.parts = append(w.parts, made(t, me, nodes))
	}
	return w
}

// send: messages are on their way, if they are not lost.
func (w *world) send(l []swim.Msg) {
	for _, m := range l {
		if !w.lost(m.From) {
			w.flight = append(w.flight, m)
		}
	}
}

// arrive: all that is on its way does, and what is sent for it, too.
func (w *world) arrive(t testing.TB) {
	t.Helper()
	for n := 0; len(w.flight) > 0; n++ {
		if n > 100000 {
			t.Fatal("messages never end")
		}
		i := 0
		switch w.way {
		case 1:
			i = len(w.flight) - 1
		case 2:
			i = w.rnd.Intn(len(w.flight))
		}
		m := w.flight[i]
		w.flight = append(w.flight[:i], w.flight[i+1:]...)
		w.send(w.parts[m.To].Take(m))
	}
}

// tick: all clocks do, and all that is sent arrives.
func (w *world) tick(t testing.TB) {
	t.Helper()
	for _, s := range w.parts {
		if w.drawn && w.rnd.Intn(20) == 0 {
			s.Draw(w.rnd.Int() - w.rnd.Int())
		}
		w.send(s.Tick())
		if w.way == 3 {
			w.arrive(t)
		}
	}
	w.arrive(t)
}

// sees fails unless each one of these sees another one so.
func (w *world) sees(t testing.TB, node, state int, by func(me int) bool) {
	t.Helper()
	for me, s := range w.parts {
		if i := s.View().Get(node); by(me) && i.State != state {
			t.Fatalf("way %d, of %d, at %d: %d sees %d as %v, want the state %d", w.way, len(w.parts), s.Now(), me, node, i, state)
		}
	}
}

// allBut: all replicas but one.
func allBut(node int) func(int) bool {
	return func(me int) bool { return me != node }
}

// onlyDead fails unless all others see this one as Dead, and each other as Alive.
func (w *world) onlyDead(t testing.TB, silent int) {
	t.Helper()
	for node := range w.parts {
		state := api.Alive
		if node == silent {
			state = api.Dead
		}
		w.sees(t, node, state, allBut(silent))
	}
}

// TestNobodyIsDoubted is P16.4.
func TestNobodyIsDoubted(t *testing.T) {
	rnd := rand.New(rand.NewSource(1))
	for nodes := 1; nodes <= 16; nodes++ {
		for way := range ways {
			for _, drawn := range []bool{false, true} {
				w := newWorld(t, nodes, way, rnd)
				w.drawn = drawn
				for range 300 {
					w.tick(t)
					for me, s := range w.parts {
						for node := range nodes {
							if i := s.View().Get(node); i != (member.Info{}) {
								t.Fatalf("way %d: %d sees %d as %v", way, me, node, i)
							}
						}
					}
				}
			}
		}
	}
}

// TestSilent is P16.5.
func TestSilent(t *testing.T) {
	for nodes := 2; nodes <= 16; nodes++ {
		for silent := range nodes {
			for way := range ways {
				w := newWorld(t, nodes, way, rand.New(rand.NewSource(2)))
				w.lost = func(from int) bool { return from == silent }
				for range 10*(nodes+3) + 40 {
					w.tick(t)
				}
				for n := range 100 {
					if n%11 == 0 {
						w.onlyDead(t, silent)
					}
					w.tick(t)
				}
			}
		}
	}
}

// TestAllMeetAgain is P16.7, and P2 of who is there.
func TestAllMeetAgain(t *testing.T) {
	rnd := rand.New(rand.NewSource(3))
	for i := range 4000 {
		nodes := 2 + i%4
		w := newWorld(t, nodes, rnd.Intn(ways), rnd)
		w.loses(t, i/4%6)
		w.lost = func(int) bool { return false }
		for range 60*nodes + 200 {
			w.tick(t)
		}
		for node := range nodes {
			w.sees(t, node, api.Alive, func(int) bool { return true })
		}
	}
}

// loses: for some ticks what one, or all, send is lost.
func (w *world) loses(t *testing.T, kind int) {
	t.Helper()
	ticks, who, all := 1+w.rnd.Intn(300), w.rnd.Intn(len(w.parts)), w.rnd.Intn(3) == 0
	if kind == 0 {
		ticks = 300
	}
	often := w.rnd.Intn(50)
	for n := range ticks {
		switch kind {
		case 0, 1: // the same one all the time, or all
		case 2: // another one, or all, in each tick
			who, all = w.rnd.Intn(len(w.parts)), w.rnd.Intn(3) == 0
		case 3: // another one, or all, or none, for a while
			if n%(often+1) == 0 {
				who, all = w.rnd.Intn(len(w.parts)+1), w.rnd.Intn(3) == 0
			}
		case 4: // the same one, sometimes
			who = w.rnd.Intn(2) * len(w.parts)
		case 5: // all, sometimes
			all = w.rnd.Intn(50) < often
		}
		lostBy, lostAll := who, all
		w.lost = func(from int) bool { return lostAll || from == lostBy }
		w.tick(t)
	}
}

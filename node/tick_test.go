package node_test

import (
	"fmt"
	"slices"
	"testing"

	"steelyard/api"
	"steelyard/letter"
	"steelyard/member"
	"steelyard/node"
	"steelyard/pool"
	"steelyard/swim"
)

// TestLate: packets that have waited for eight ticks go, those first that came first.
func TestLate(t *testing.T) {
	x := made(t, 0, conf(2))
	all := owned(t, 1, 6, 0, 1)
	for i := range 3 {
		x.Packet(packet(t, all[2*i], 0))
		x.Packet(packet(t, all[2*i+1], 0))
		tick(x, 2)
	}
	comes(t, hears(t, x, 1, told(letter.Answer{Id: 3, Why: letter.NoOne})), drops(node.NoBackend))
	waits, late := 5, uint64(0)
	for now := 7; now < 20; now++ {
		n := map[int]int{8: 2, 10: 1, 12: 2}[now]
		r := x.Tick()
		if !slices.Equal(r.Drops, slices.Repeat([]int{node.Late}, n)) || x.Now() != int64(now) {
			t.Fatalf("at %d: %v", x.Now(), r.Drops)
		}
		waits, late = waits-n, late+uint64(n)
		if x.Waiting() != waits {
			t.Fatalf("at %d: %d wait, want %d", now, x.Waiting(), waits)
		}
		counted(t, x, 0, 0, 0, 1, 0, 0, late)
	}
	for id := range int64(7) {
		comes(t, hears(t, x, 1, told(letter.Answer{Id: 1 + id, Why: letter.NoOne})), node.Result{})
	}
	comes(t, x.Packet(packet(t, all[0], 0)), node.Result{Out: []node.Out{out(t, 1, asked(7, all[0], 0))}})
}

// TestLateAlike: those that came at the same time are late at the same time, all at once; there is room for as many again.
func TestLateAlike(t *testing.T) {
	x := made(t, 0, conf(2))
	all := owned(t, 1, 16, 0, 1)
	for range 3 {
		for _, y := range all {
			x.Packet(packet(t, y, 0))
		}
		tick(x, 7)
		if x.Waiting() != 16 {
			t.Fatalf("%d wait", x.Waiting())
		}
		if r := x.Tick(); len(r.Drops) != 16 || x.Waiting() != 0 {
			t.Fatalf("%v", r.Drops)
		}
	}
	counted(t, x, 0, 0, 0, 0, 0, 0, 48)
}

// pings: what a part of swim by itself sends at its next tick.
func pings(t testing.TB, s *swim.Swim) []node.Out {
	t.Helper()
	var l []node.Out
	for _, m := range s.Tick() {
		l = append(l, out(t, m.To, message(m)))
	}
	return l
}

// all: what one that knows all that is known at x is told by it in its turn.
func all(t testing.TB, x *node.Node, to int) []node.Out {
	t.Helper()
	var l []pool.Update
	for backend, r := range x.Pool().All() {
		l = append(l, pool.Update{Backend: backend, Rec: r})
	}
	return []node.Out{out(t, to, updates(l...)), out(t, to, letter.Letter{Kind: letter.Marks, Marks: x.Pool().Marks()})}
}

// TestTickTellsOne: each fifth tick one of the others, each one in its turn, but those that are given up; nothing, if nothing is known. Behind what swim sends, which is as a part by itself sends it.
func TestTickTellsOne(t *testing.T) {
	for nodes := 1; nodes <= 5; nodes++ {
		for me := range nodes {
			x := made(t, me, conf(nodes))
			s, _ := swim.New(me, nodes)
			var others []int
			for i := range nodes {
				if i != me {
					others = append(others, i)
				}
			}
			for now := 1; now <= 130; now++ {
				if now == 31 {
					u := known(2, 1, api.Active)
					if nodes > 1 {
						hears(t, x, others[0], updates(u, known(9, 1, api.Released)))
					} else {
						admin(t, x, add(2, four(10)))
					}
				}
				if now%3 == 0 {
					x.Draw(now * 7)
					s.Draw(now * 7)
				}
				want := node.Result{Out: pings(t, s)}
				if now > 30 && now%5 == 0 && nodes > 1 {
					live := slices.DeleteFunc(s.Live(), func(i int) bool { return i == me })
					if len(live) > 0 {
						want.Out = append(want.Out, all(t, x, live[now/5%len(live)])...)
					}
				}
				comes(t, x.Tick(), want)
				if now > 60 && now%2 == 0 { // the first one of the others is there again and again, the rest are given up by and by
					m := swim.Msg{Kind: swim.Ack, To: me, Seq: int64(now), News: []swim.Item{{Node: nodes - 1, Info: member.Info{Inc: int64(now)}}}}
					if len(others) > 0 {
						m.From = others[0]
						hears(t, x, m.From, message(m))
						s.Take(m)
					}
				}
			}
			if nodes > 3 && len(x.Live()) == nodes {
				t.Errorf("of %d nobody was given up: %v", nodes, x.Live())
			}
		}
	}
}

// TestTickDrains: what drain.Step says is told to all others, each update by itself, behind what swim sends, and ahead of what one is told in its turn.
func TestTickDrains(t *testing.T) {
	x := made(t, 1, conf(3))
	s, _ := swim.New(1, 3)
	for range 9 {
		x.Tick()
		s.Tick()
	}
	two, five, nine := known(2, 1, api.Draining), known(5, 1, api.Draining), known(9, 1, api.Draining)
	two.Rec.Done, five.Rec.Done, nine.Rec.Done = 5, 4, 7
	comes(t, hears(t, x, 0, updates(two, five, nine)), node.Result{})
	u := []pool.Update{two, five, nine, two}
	u[0].Rec.Done, u[1].Rec.Done, u[3].Rec.Done = 7, 6, 7
	u[2], u[3] = u[3], u[2]
	u[2].Rec.Life, u[3].Rec.Life = api.Released, api.Released
	want := node.Result{Out: pings(t, s), Made: u, Gone: []node.Gone{{Backend: 2, Gen: 1}, {Backend: 9, Gen: 1}}}
	if len(want.Out) != 1 {
		t.Fatalf("at the tenth tick swim sends %v", want.Out)
	}
	for _, y := range u {
		want.Out = append(want.Out, out(t, 0, updates(y)), out(t, 2, updates(y)))
	}
	r := x.Tick()
	want.Out = append(want.Out, all(t, x, 0)...)
	comes(t, r, want)
	comes(t, x.Tick(), node.Result{})
	if w := x.Waits(); len(w) != 1 || w[0].Backend != 5 || w[0].Gen != 1 || !slices.Equal(w[0].Missing, []int{0}) {
		t.Errorf("Waits = %v", w)
	}
}

// TestDrainsOfItsOwn: one alone releases a backend when no flow to it lives, and it may be used no more; not a tick ahead.
func TestDrainsOfItsOwn(t *testing.T) {
	x := alone(t, conf(1), four(10, 1, 0, 2))
	x.Packet(packet(t, tcp(1), api.Syn))
	admin(t, x, drained(2))
	tick(x, 1)
	x.Packet(packet(t, tcp(1), api.Fin))
	if w := x.Waits(); len(w) != 1 || fmt.Sprint(w[0]) != "{2 1 1 1 [0]}" {
		t.Errorf("Waits = %v", w)
	}
	x.Packet(packet(t, tcp(1), api.Ack))
	comes(t, x.Packet(packet(t, tcp(1), api.Ack)), drops(node.NoBackend))
	u := known(2, 1, api.Draining)
	u.Rec.Done = 1
	v := u
	v.Rec.Life = api.Released
	comes(t, x.Tick(), node.Result{Made: []pool.Update{u, v}, Gone: []node.Gone{{Backend: 2, Gen: 1}}})
	if len(x.Waits()) > 0 {
		t.Errorf("Waits = %v", x.Waits())
	}
	comes(t, x.Tick(), node.Result{})
	r := admin(t, x, add(2, four(11)))
	if len(r.Made) != 1 || r.Made[0].Rec.Gen != 2 || len(r.Gone) > 0 {
		t.Errorf("%v", r)
	}
	b := packet(t, tcp(1), api.Ack)
	comes(t, x.Packet(b), node.Result{
		Grants: []node.Grant{{T: tcp(1), Flags: api.Ack, Backend: 2, Gen: 2, Until: 3, New: true}},
		Frames: []node.Frame{frame(t, 0, 2, 2, four(11), tcp(1), b)},
	})
}

// TestHeldAsLongAsItMayBeUsed: what another one was told may be used for four ticks, though the flow is over; then it goes.
func TestHeldAsLongAsItMayBeUsed(t *testing.T) {
	x := made(t, 0, conf(2))
	admin(t, x, add(2, four(10)))
	hears(t, x, 1, asked(1, tcp(1), api.Syn))
	hears(t, x, 1, asked(2, tcp(1), api.Rst))
	admin(t, x, drained(2))
	for now := 1; now <= 5; now++ {
		r := x.Tick()
		if said := len(r.Made) == 1 && r.Made[0].Rec.Done == 1; said != (now == 5) {
			t.Errorf("at %d: %v", now, r.Made)
		}
	}
}

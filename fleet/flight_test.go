package fleet_test

import (
	"fmt"
	"math"
	"testing"

	"steelyard/api"
	"steelyard/fleet"
	"steelyard/node"
)

// sent: replicas of which the first one has told the second one of so many backends, from 0 on.
func sent(t testing.TB, many int) *fleet.Fleet {
	t.Helper()
	f := made(t, conf(2))
	for backend := range many {
		f.Do(add(0, backend, four(10)))
	}
	if f.Flight() != many {
		t.Fatalf("%d letters", f.Flight())
	}
	return f
}

// TestByNumber: the letter is the one that is the rest of its number by how many are on their way, whatever the number.
func TestByNumber(t *testing.T) {
	for many := 1; many <= 5; many++ {
		for n := -11; n <= 11; n++ {
			want := ((n + 60) % many)
			f := sent(t, many)
			f.Do(letter(api.EvDeliver, n))
			knows(t, f, 1, want)
			if f.Flight() != many-1 {
				t.Errorf("%d letters of %d", f.Flight(), many)
			}
		}
	}
	for n, want := range map[int]int{math.MaxInt: 1, math.MinInt: 1, math.MaxInt - 1: 0, math.MinInt + 1: 2} { // 2^63 - 1 is 7 by 3 and more: the rest is 1
		f := sent(t, 3)
		f.Do(letter(api.EvDeliver, n))
		knows(t, f, 1, want)
	}
}

// TestOrderIsKept: whichever letter arrives or is lost, the others stand as they stood.
func TestOrderIsKept(t *testing.T) {
	for _, kind := range []int{api.EvDeliver, api.EvDrop} {
		for n := range 5 {
			f := sent(t, 5)
			f.Do(letter(kind, n))
			var left []int
			for i := range 5 {
				if i != n {
					left = append(left, i)
				}
			}
			came := []int{}
			if kind == api.EvDeliver {
				came = append(came, n)
			}
			for _, backend := range left {
				f.Do(letter(api.EvDeliver, 0))
				came = append(came, backend)
				for _, is := range came {
					if f.Node(1).Pool().Get(is).Gen != 1 {
						t.Fatalf("%d did not come: %s", is, state(f.Node(1)))
					}
				}
			}
			if f.Flight() != 0 || f.Node(1).Pool().Get(n).Gen != int64(len(came)-4) {
				t.Errorf("%d letters; %s", f.Flight(), state(f.Node(1)))
			}
		}
	}
}

// TestDouble: the second one is the last of all; each one arrives once.
func TestDouble(t *testing.T) {
	f := sent(t, 3)
	sees(t, f.Do(letter(api.EvDouble, 1)))
	if f.Flight() != 4 {
		t.Fatalf("%d letters", f.Flight())
	}
	f.Do(letter(api.EvDeliver, -1))
	knows(t, f, 1, 1)
	f.Do(letter(api.EvDrop, 1))
	does(f, letter(api.EvDeliver, 0), letter(api.EvDeliver, 0))
	knows(t, f, 1, 0, 1, 2)
	if f.Flight() != 0 {
		t.Errorf("%d letters", f.Flight())
	}
	own := packet(t, owned(t, 1, 2), api.Syn) // what is asked twice is granted twice, and told twice
	l := does(f, comes(0, own), letter(api.EvDouble, 0))
	l = append(l, settle(t, f)...)
	kinds := []int{}
	for _, s := range l {
		kinds = append(kinds, s.Kind)
	}
	if fmt.Sprint(kinds) != "[1 1 2]" {
		t.Errorf("%+v", l)
	}
}

// TestNoLetters: where none is on its way, none arrives, is lost, or is there twice.
func TestNoLetters(t *testing.T) {
	f := made(t, conf(2))
	was := all(f)
	for _, n := range []int{math.MinInt, -1, 0, 1, math.MaxInt} {
		for _, kind := range []int{api.EvDeliver, api.EvDrop, api.EvDouble} {
			sees(t, f.Do(letter(kind, n)))
			if all(f) != was {
				t.Fatal(all(f))
			}
		}
	}
}

// TestWhereItGoes: each letter comes to the one that it was sent to, as from who sent it.
func TestWhereItGoes(t *testing.T) {
	for me := range 4 {
		f := made(t, conf(4))
		f.Do(add(me, 9, four(10)))
		for i := range 4 {
			if i == me {
				continue
			}
			knows(t, f, i)
			f.Do(letter(api.EvDeliver, 0))
			knows(t, f, i, 9)
		}
		y := owned(t, me, 4) // an answer goes back to who asked
		asks := (me + 1) % 4
		f.Do(comes(asks, packet(t, y, api.Syn)))
		l := settle(t, f)
		if len(l) != 2 || l[0].Node != me || l[0].Grant.From != asks || l[1].Node != asks || l[1].Kind != fleet.Framed {
			t.Errorf("%+v", l)
		}
	}
}

// TestMostOnTheirWay: what is sent, or doubled, where MaxFlight letters are on their way is lost; all else goes on.
func TestMostOnTheirWay(t *testing.T) {
	f := made(t, node.Conf{Nodes: 3, Slots: 2, Flows: 9, Mtu: 1500})
	f.Do(add(0, 1, four(10)))
	for f.Flight() < api.MaxFlight-1 {
		f.Do(letter(api.EvDouble, 0)) // to the replica 1
	}
	f.Do(add(0, 2, four(11))) // of two letters there is room for one
	if f.Flight() != api.MaxFlight {
		t.Fatalf("%d letters", f.Flight())
	}
	f.Do(letter(api.EvDeliver, -1)) // the first of the two
	knows(t, f, 1, 2)
	f.Do(letter(api.EvDouble, 1)) // the replica 2 gets what it was first told
	f.Do(letter(api.EvDouble, 0))
	f.Do(add(0, 3, four(12)))
	if f.Flight() != api.MaxFlight || len(f.Issued()) != 3 {
		t.Fatalf("%d letters", f.Flight())
	}
	knows(t, f, 0, 1, 2, 3)
	f.Do(letter(api.EvDeliver, -1))
	knows(t, f, 1, 2)
	knows(t, f, 2, 1)
	f.Do(letter(api.EvDeliver, 0)) // to the replica 1; the clones of it follow
	knows(t, f, 1, 1, 2)
	own := packet(t, owned(t, 1, 3), api.Syn) // a letter that arrives is not on its way: its answer has room
	f = made(t, conf(3))
	does(f, add(1, 1, four(10)), comes(0, own))
	for f.Flight() < api.MaxFlight {
		f.Do(letter(api.EvDouble, 0))
	}
	if l := f.Do(letter(api.EvDeliver, 2)); len(l) != 1 || l[0].Kind != fleet.Granted || f.Flight() != api.MaxFlight {
		t.Fatalf("%+v, %d letters", l, f.Flight())
	}
	if l := f.Do(letter(api.EvDeliver, -1)); len(l) != 1 || l[0].Kind != fleet.Framed {
		t.Errorf("%+v", l)
	}
}

// TestRound: all clocks tick, then letters arrive, those too that are sent by then.
func TestRound(t *testing.T) {
	f := made(t, conf(3))
	does(f, add(0, 2, four(10)), comes(2, packet(t, owned(t, 1, 3), api.Syn)))
	l := f.Do(round())
	if len(l) != 2 || l[0].Kind != fleet.Granted || l[0].Now != 1 || l[1].Kind != fleet.Framed || l[1].Now != 1 || f.Flight() != 0 {
		t.Fatalf("%+v", l)
	}
	for range 9 { // pings, and their answers
		f.Do(round())
	}
	if f.Flight() != 0 || f.Now() != 10 || f.Steps() != 12 {
		t.Errorf("%d letters at %d, %d steps", f.Flight(), f.Now(), f.Steps())
	}
	for i := range 3 {
		if x := f.Node(i); x.Now() != 10 || x.Pool().Get(2).Gen != 1 {
			t.Error(state(x))
		}
	}
}

// TestRoundsMost: 5000 letters arrive in a round, and no more.
func TestRoundsMost(t *testing.T) {
	for _, c := range []struct{ more, left int }{{-1, 0}, {0, 0}, {1, 1}, {2000, 2000}} {
		f := made(t, node.Conf{Nodes: 2, Slots: 2, Flows: 9, Mtu: 1500})
		does(f, add(0, 1, four(10)))
		for f.Flight() < 5000+c.more-1 {
			f.Do(letter(api.EvDouble, 0))
		}
		f.Do(add(0, 2, four(10)))
		f.Do(round())
		if f.Flight() != c.left {
			t.Errorf("of %d letters %d are left", 5000+c.more, f.Flight())
		}
		if c.left == 0 {
			knows(t, f, 1, 1, 2)
			continue
		}
		knows(t, f, 1, 1) // the last one has not come
		f.Do(letter(api.EvDeliver, -1))
		knows(t, f, 1, 1, 2)
	}
}

// TestTicksInTurn: the replicas tick rising, and what each one sends goes behind what those ahead of it sent.
func TestTicksInTurn(t *testing.T) {
	f := made(t, conf(4))
	var want []node.Out
	var from []int
	for i := range 4 {
		x, _ := node.New(i, conf(4))
		var r node.Result
		for range 10 {
			r = x.Tick()
			for range r.Out {
				from = append(from, i)
			}
			want = append(want, r.Out...)
		}
	}
	for range 10 {
		sees(t, f.Do(tick()))
	}
	if f.Flight() != len(want) || len(want) != 4 {
		t.Fatalf("%d letters, want %d", f.Flight(), len(want))
	}
	for k, o := range want {
		x, _ := node.New(o.To, conf(4))
		for range 10 {
			x.Tick()
		}
		if _, e := x.Vote(0, true); e != api.ErrNone {
			t.Fatalf("Vote: %d", e)
		}
		g := made(t, conf(4))
		for range 10 {
			g.Do(tick())
		}
		g.Do(letter(api.EvDeliver, k))
		x.Letter(from[k], o.Data)
		if state(g.Node(o.To)) != state(x) || g.Flight() != 4 {
			t.Errorf("the letter %d: %s, want %s", k, state(g.Node(o.To)), state(x))
		}
	}
}

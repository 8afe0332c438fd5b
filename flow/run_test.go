package flow_test

import (
	"math"
	"math/rand"
	"slices"
	"testing"

	"steelyard/api"
	"steelyard/flow"
)

type packets = []flow.Packet

func TestRun(t *testing.T) {
	for _, c := range []struct {
		name  string
		proto int
		l     packets
		n     int
		last  flow.Flow
	}{
		{"none", api.Tcp, nil, 0, flow.Flow{}},
		{"empty", api.Udp, packets{}, 0, flow.Flow{}},
		{"one", api.Tcp, packets{{api.Syn, 5}}, 1, tcp(flow.Open, 5)},
		{"goes on", api.Tcp, packets{{api.Syn, 5}, {ack, 65}, {ack, 125}}, 1, tcp(flow.Open, 125)},
		{"idle too long", api.Tcp, packets{{api.Syn, 5}, {ack, 66}}, 2, tcp(flow.Open, 66)},
		{"of udp goes on", api.Udp, packets{{0, 5}, {0, 25}, {0, 45}}, 1, udp(45)},
		{"of udp idle too long", api.Udp, packets{{0, 5}, {0, 26}}, 2, udp(26)},
		{"over", api.Tcp, packets{{api.Syn, 5}, {fin, 7}, {ack, 8}}, 1, tcp(flow.Over, 8)},
		{"over, and anew", api.Tcp, packets{{api.Syn, 5}, {fin, 7}, {ack, 8}, {ack, 8}}, 2, tcp(flow.Open, 8)},
		{"no Ack behind a Fin", api.Tcp, packets{{fin, 5}, {fin | ack, 6}, {0, 7}}, 1, tcp(flow.Fin, 7)},
		{"reset", api.Tcp, packets{{api.Syn, 5}, {rst, 6}}, 1, tcp(flow.Over, 6)},
		{"reset twice: the second one begins nothing", api.Tcp, packets{{api.Syn, 5}, {rst, 6}, {rst, 7}}, 1, tcp(flow.Over, 6)},
		{"reset of nothing", api.Tcp, packets{{rst, 5}, {rst | fin, 6}}, 0, flow.Flow{}},
		{"reset of nothing, then one", api.Tcp, packets{{rst, 5}, {fin, 5}}, 1, tcp(flow.Fin, 5)},
		{"a reset that comes too late leaves the flow as it is", api.Tcp, packets{{api.Syn, 5}, {rst, 66}}, 1, tcp(flow.Open, 5)},
		{"time falls: it does not live ahead of its last packet", api.Tcp, packets{{api.Syn, 50}, {ack, 49}}, 2, tcp(flow.Open, 49)},
		{"time falls for a reset alone", api.Tcp, packets{{api.Syn, 50}, {rst, 49}, {ack, 60}}, 1, tcp(flow.Open, 60)},
		{"the end of all time", api.Tcp, packets{{0, ticks - 60}, {0, ticks}, {0, ticks}}, 1, tcp(flow.Open, ticks)},
		{"of no protocol nothing", 5, nil, 0, flow.Flow{}},
	} {
		t.Run(c.name, func(t *testing.T) { runs(t, c.proto, c.l, c.n, c.last, api.OK) })
	}
}

// TestRunOfWrong: an error, wherever it is, leaves nothing of what was ahead of it.
func TestRunOfWrong(t *testing.T) {
	ahead := []packets{nil, {{0, 5}}, {{0, 5}, {0, 100}, {0, 101}}}
	for _, l := range ahead {
		for _, proto := range []int{api.Tcp, api.Udp} {
			for _, flags := range noFlags() {
				runs(t, proto, append(slices.Clone(l), flow.Packet{Flags: flags, Now: 110}), 0, flow.Flow{}, api.ErrArg)
				runs(t, proto, append(slices.Clone(l), flow.Packet{Flags: flags, Now: 1000}), 0, flow.Flow{}, api.ErrArg)
			}
			for _, now := range noTimes() {
				runs(t, proto, append(slices.Clone(l), flow.Packet{Flags: rst, Now: now}, flow.Packet{Now: 110}), 0, flow.Flow{}, api.ErrArg)
				runs(t, proto, append(slices.Clone(l), flow.Packet{Now: now}, flow.Packet{Now: 110}), 0, flow.Flow{}, api.ErrArg)
			}
		}
		runs(t, api.Udp, append(slices.Clone(l), flow.Packet{Flags: rst, Now: 110}), 0, flow.Flow{}, api.ErrArg)
	}
	for _, proto := range noProtos() {
		runs(t, proto, packets{{0, 5}}, 0, flow.Flow{}, api.ErrProto)
		runs(t, proto, packets{{-1, -1}, {0, 5}}, 0, flow.Flow{}, api.ErrProto)
	}
	for _, now := range []int64{ticks + 1, ticks + 60} { // the flow ahead of it lives then
		runs(t, api.Tcp, packets{{0, ticks}, {0, now}}, 0, flow.Flow{}, api.ErrArg)
	}
}

// TestRunLeavesItsList: what is handed in is not changed.
func TestRunLeavesItsList(t *testing.T) {
	l := packets{{api.Syn, 5}, {fin, 6}, {ack, 7}, {rst, 8}, {0, 9}, {rst, 100}}
	was := slices.Clone(l)
	runs(t, api.Tcp, l, 2, tcp(flow.Open, 9), api.OK)
	if !slices.Equal(l, was) {
		t.Errorf("%v, which was %v", l, was)
	}
}

// some: a number out of a list, as chance has it.
func some[T any](rnd *rand.Rand, l []T) T { return l[rnd.Intn(len(l))] }

// flagsBy: flags as chance has them, mostly those that can be.
func flagsBy(rnd *rand.Rand, proto int) int {
	if rnd.Intn(300) == 0 {
		return some(rnd, noFlags())
	}
	if proto == api.Udp && rnd.Intn(300) > 0 {
		return 0
	}
	return some(rnd, []int{0, 0, ack, ack, fin, fin | ack, api.Syn, rst, api.Psh | ack, rnd.Intn(256)})
}

// TestByChance holds all calls against the plain ones.
func TestByChance(t *testing.T) {
	rnd := rand.New(rand.NewSource(1))
	all := append(rights(), wrongs()...)
	for range 60000 {
		f := some(rnd, all)
		flags := flagsBy(rnd, f.Proto)
		now := f.Last + rnd.Int63n(100) - 20
		if rnd.Intn(100) == 0 {
			now = some(rnd, noTimes())
		}
		if flow.Right(f) != canBe(f) || flow.Live(f, now) != lives(f, now) {
			t.Fatalf("%v can be: %t, lives at %d: %t", f, flow.Right(f), now, flow.Live(f, now))
		}
		want, e := begun(f.Proto, flags, now)
		begins(t, f.Proto, flags, now, want, e)
		want, e = stepped(f, flags, now)
		steps(t, f, flags, now, want, e)
	}
}

// listBy: packets as chance has them, with times that rise, and at some places fall if they may.
func listBy(rnd *rand.Rand, proto int, may bool) packets {
	var l packets
	now := some(rnd, []int64{0, 5, 1 << 30, ticks - 500})
	for range rnd.Intn(30) {
		l = append(l, flow.Packet{Flags: flagsBy(rnd, proto), Now: now})
		now += rnd.Int63n(some(rnd, []int64{2, 15, 30, 90}))
		if may && rnd.Intn(10) == 0 {
			now -= rnd.Int63n(50)
		}
	}
	return l
}

// TestRunByChance holds Run against the plain one.
func TestRunByChance(t *testing.T) {
	rnd := rand.New(rand.NewSource(2))
	for i := range 20000 {
		proto := some(rnd, []int{api.Tcp, api.Tcp, api.Udp})
		if i%100 == 0 {
			proto = some(rnd, noProtos())
		}
		l := listBy(rnd, proto, i%2 == 0)
		n, f, e := ran(proto, l)
		runs(t, proto, l, n, f, e)
	}
}

// TestOver is P19.4: a flow of TCP is over behind a Rst, and behind an Ack without Fin that comes behind a Fin, be other packets between; any flow is at End.
func TestOver(t *testing.T) {
	rnd := rand.New(rand.NewSource(3))
	for range 20000 {
		f, e := flow.Begin(api.Tcp, some(rnd, []int{0, api.Syn, fin}), 0)
		ended, now := f.State == flow.Fin, int64(0)
		for range 20 {
			now += rnd.Int63n(62)
			flags := rnd.Intn(256)
			if now >= flow.End(f) {
				steps(t, f, flags, now, flow.Flow{}, api.ErrState)
				break
			}
			if f, e = flow.Step(f, flags, now); e != api.OK {
				t.Fatalf("Step at %d: %d", now, e)
			}
			over := flags&rst != 0 || ended && flags&ack != 0 && flags&fin == 0
			ended = ended || flags&fin != 0
			if over != (f.State == flow.Over) || over == flow.Live(f, now) || over != (flow.End(f) == 0) {
				t.Fatalf("behind %d at %d: %v", flags, now, f)
			}
			if over {
				break
			}
		}
	}
}

// TestNeverAgain is P19.5: who is over lives never again; a packet lets End never fall, but to 0.
func TestNeverAgain(t *testing.T) {
	rnd := rand.New(rand.NewSource(4))
	for _, f := range rights() {
		for range 300 {
			flags, now := flagsBy(rnd, f.Proto), f.Last+rnd.Int63n(100)-20
			g, e := flow.Step(f, flags, now)
			if e == api.OK && flow.End(g) != 0 && flow.End(g) < flow.End(f) {
				t.Fatalf("Step(%v, %d, %d): %v ends at %d, which was %d", f, flags, now, g, flow.End(g), flow.End(f))
			}
			if f.State == flow.Over && (e == api.OK || flow.Live(f, now)) {
				t.Fatalf("%v is over; at %d it has a packet", f, now)
			}
		}
	}
	for _, now := range []int64{0, 5, 8, 9, 70, ticks, math.MaxInt64} {
		if flow.Live(tcp(flow.Over, 8), now) {
			t.Errorf("it is over, and lives at %d", now)
		}
	}
}

// FuzzFlow: whatever is asked, it is answered as by the words.
func FuzzFlow(f *testing.F) {
	f.Add(6, 1, int64(5), 16, int64(7))
	f.Add(6, 2, int64(5), 16, int64(65))
	f.Add(17, 1, int64(ticks), 0, int64(ticks+20))
	f.Add(17, 3, int64(-1), -1, int64(math.MaxInt64))
	f.Fuzz(func(t *testing.T, proto, state int, last int64, flags int, now int64) {
		g := flow.Flow{Proto: proto, State: state, Last: last}
		if flow.Right(g) != canBe(g) || flow.Live(g, now) != lives(g, now) {
			t.Fatalf("%v can be: %t, lives at %d: %t", g, flow.Right(g), now, flow.Live(g, now))
		}
		end := flow.End(g)
		if (end > 0) != (canBe(g) && state != flow.Over) || end > 0 && (!lives(g, end-1) || lives(g, end)) {
			t.Fatalf("End(%v) = %d", g, end)
		}
		want, e := begun(proto, flags, now)
		begins(t, proto, flags, now, want, e)
		want, e = stepped(g, flags, now)
		steps(t, g, flags, now, want, e)
	})
}

// FuzzRun: whatever comes, it is as by the words.
func FuzzRun(f *testing.F) {
	f.Add(6, []byte{2, 0, 1, 2, 16, 1, 4, 70})
	f.Add(17, []byte{0, 5, 0, 21, 0, 20, 1, 255})
	f.Fuzz(func(t *testing.T, proto int, script []byte) {
		var l packets
		now := int64(100)
		for i := 0; i+1 < min(len(script), 1000); i += 2 {
			now += int64(int8(script[i+1]))
			l = append(l, flow.Packet{Flags: int(script[i]), Now: now})
		}
		n, g, e := ran(proto, l)
		runs(t, proto, l, n, g, e)
	})
}

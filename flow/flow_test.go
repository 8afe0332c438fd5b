package flow_test

import (
	"math"
	"testing"

	"steelyard/api"
	"steelyard/flow"
)

const (
	ticks = api.MaxTicks
	rst   = api.Rst
	fin   = api.Fin
	ack   = api.Ack
)

// tcp, udp: flows in that state, whose last packet came then.
func tcp(state int, last int64) flow.Flow {
	return flow.Flow{Proto: api.Tcp, State: state, Last: last}
}

func udp(last int64) flow.Flow {
	return flow.Flow{Proto: api.Udp, State: flow.Open, Last: last}
}

// noProtos, noTimes, noFlags: what can't be of any packet.
func noProtos() []int {
	return []int{math.MinInt, -6, -1, 0, 1, 5, 7, 16, 18, 58, 6 + 256, 17 + 256, 1<<32 + 6, 1<<32 + 17, math.MaxInt}
}

func noTimes() []int64 {
	return []int64{math.MinInt64, -ticks, -61, -1, ticks + 1, ticks + 61, 1 << 41, math.MaxInt64 - 60, math.MaxInt64}
}

func noFlags() []int {
	return []int{math.MinInt, math.MinInt + 1, -256, -1, 256, 257, 1 << 16, 1<<32 + 1, math.MaxInt}
}

// rights: flows that can be, in all states and at the edges of time.
func rights() []flow.Flow {
	var l []flow.Flow
	for _, last := range []int64{0, 1, 5, 1000, ticks - 61, ticks - 60, ticks - 21, ticks - 1, ticks} {
		l = append(l, tcp(flow.Open, last), tcp(flow.Fin, last), tcp(flow.Over, last), udp(last))
	}
	return l
}

// wrongs: flows that can't be.
func wrongs() []flow.Flow {
	l := []flow.Flow{{}, {State: flow.Open}, {Proto: api.Tcp}, {Proto: api.Udp}, {Proto: api.Udp, State: flow.Fin}, {Proto: api.Udp, State: flow.Over}}
	for _, proto := range noProtos() {
		for state := flow.Open; state <= flow.Over; state++ {
			l = append(l, flow.Flow{Proto: proto, State: state, Last: 5})
		}
	}
	for _, state := range []int{math.MinInt, -1, 0, 4, 5, 1<<32 + 1, math.MaxInt} {
		l = append(l, tcp(state, 5), flow.Flow{Proto: api.Udp, State: state, Last: 5})
	}
	for _, last := range noTimes() {
		l = append(l, tcp(flow.Open, last), tcp(flow.Fin, last), tcp(flow.Over, last), udp(last))
	}
	return l
}

// begins, steps fail unless the answer is this one.
func begins(t testing.TB, proto, flags int, now int64, want flow.Flow, e api.Errno) {
	t.Helper()
	if f, got := flow.Begin(proto, flags, now); f != want || got != e {
		t.Fatalf("Begin(%d, %d, %d) = %v, %d, want %v, %d", proto, flags, now, f, got, want, e)
	}
}

func steps(t testing.TB, f flow.Flow, flags int, now int64, want flow.Flow, e api.Errno) {
	t.Helper()
	if g, got := flow.Step(f, flags, now); g != want || got != e {
		t.Fatalf("Step(%v, %d, %d) = %v, %d, want %v, %d", f, flags, now, g, got, want, e)
	}
}

// runs fails unless so many flows began, and the last one is so.
func runs(t testing.TB, proto int, l []flow.Packet, n int, want flow.Flow, e api.Errno) {
	t.Helper()
	if m, f, got := flow.Run(proto, l); m != n || f != want || got != e {
		t.Fatalf("Run(%d, %v) = %d, %v, %d, want %d, %v, %d", proto, l, m, f, got, n, want, e)
	}
}

// TestNumbers: those that the document gives to its names.
func TestNumbers(t *testing.T) {
	if flow.Open != 1 || flow.Fin != 2 || flow.Over != 3 || flow.TcpIdle != 60 || flow.UdpIdle != 20 {
		t.Error(flow.Open, flow.Fin, flow.Over, flow.TcpIdle, flow.UdpIdle)
	}
}

func TestRight(t *testing.T) {
	for _, f := range rights() {
		if !flow.Right(f) {
			t.Errorf("%v can't be", f)
		}
	}
	for _, f := range wrongs() {
		if flow.Right(f) {
			t.Errorf("%v can be", f)
		}
	}
}

// TestLive: from its last packet on, for as long as it may be idle, to that tick itself.
func TestLive(t *testing.T) {
	for _, last := range []int64{0, 5, 1000, ticks - 10, ticks} {
		for now := max(0, last-100); now <= last+200; now++ {
			far := now - last
			for _, f := range []flow.Flow{tcp(flow.Open, last), tcp(flow.Fin, last)} {
				if flow.Live(f, now) != (far >= 0 && far <= 60) {
					t.Errorf("Live(%v, %d) = %t", f, now, flow.Live(f, now))
				}
			}
			if flow.Live(udp(last), now) != (far >= 0 && far <= 20) {
				t.Errorf("Live(%v, %d) = %t", udp(last), now, flow.Live(udp(last), now))
			}
			if flow.Live(tcp(flow.Over, last), now) {
				t.Errorf("over since %d, it lives at %d", last, now)
			}
		}
	}
	for _, f := range rights() {
		for _, now := range noTimes() {
			if flow.Live(f, now) != lives(f, now) {
				t.Errorf("Live(%v, %d) = %t", f, now, flow.Live(f, now))
			}
		}
	}
}

func TestLiveOfWrong(t *testing.T) {
	for _, f := range wrongs() {
		for _, now := range append(noTimes(), f.Last, f.Last+1, f.Last+60, 0, 5, 6, 65, ticks) {
			if flow.Live(f, now) {
				t.Errorf("%v lives at %d", f, now)
			}
		}
	}
}

func TestEnd(t *testing.T) {
	for _, last := range []int64{0, 1, 5, 1000, ticks - 60, ticks} {
		for f, want := range map[flow.Flow]int64{tcp(flow.Open, last): last + 61, tcp(flow.Fin, last): last + 61, udp(last): last + 21, tcp(flow.Over, last): 0} {
			if end := flow.End(f); end != want {
				t.Errorf("End(%v) = %d, want %d", f, end, want)
			}
		}
	}
	for _, f := range wrongs() {
		if end := flow.End(f); end != 0 {
			t.Errorf("End(%v) = %d", f, end)
		}
	}
}

// TestEndIsTheFirst: up to it the flow lives, from it on it does not.
func TestEndIsTheFirst(t *testing.T) {
	for _, f := range rights() {
		end := flow.End(f)
		if f.State == flow.Over {
			continue
		}
		for now := f.Last; now < end; now++ {
			if !flow.Live(f, now) {
				t.Errorf("%v does not live at %d, ahead of its End %d", f, now, end)
			}
		}
		for _, now := range []int64{end, end + 1, end + 60, ticks * 2, math.MaxInt64} {
			if flow.Live(f, now) {
				t.Errorf("%v lives at %d, behind its End %d", f, now, end)
			}
		}
	}
}

// TestBegin: of all flags there are.
func TestBegin(t *testing.T) {
	for flags := range 256 {
		for _, now := range []int64{0, 5, ticks} {
			switch {
			case flags&rst != 0:
				begins(t, api.Tcp, flags, now, flow.Flow{}, api.ErrState)
			case flags&fin != 0:
				begins(t, api.Tcp, flags, now, tcp(flow.Fin, now), api.OK)
			default:
				begins(t, api.Tcp, flags, now, tcp(flow.Open, now), api.OK)
			}
			if flags == 0 {
				begins(t, api.Udp, flags, now, udp(now), api.OK)
			} else {
				begins(t, api.Udp, flags, now, flow.Flow{}, api.ErrArg)
			}
		}
	}
}

// TestBeginOfWrong: of several errors the one that is named first.
func TestBeginOfWrong(t *testing.T) {
	flags := append(noFlags(), 0, fin, rst, 255)
	times := append(noTimes(), 0, 5, ticks)
	for _, proto := range noProtos() {
		for _, fl := range flags {
			for _, now := range times {
				begins(t, proto, fl, now, flow.Flow{}, api.ErrProto)
			}
		}
	}
	for _, proto := range []int{api.Tcp, api.Udp} {
		for _, now := range times {
			for _, fl := range noFlags() {
				begins(t, proto, fl, now, flow.Flow{}, api.ErrArg)
			}
		}
		for _, now := range noTimes() {
			for _, fl := range flags {
				begins(t, proto, fl, now, flow.Flow{}, api.ErrArg)
			}
		}
	}
}

// TestStep: of all flags there are, in all states, to the last tick at which it lives.
func TestStep(t *testing.T) {
	for flags := range 256 {
		open, closing := flow.Open, flow.Fin
		if flags&fin != 0 {
			open = flow.Fin
		} else if flags&ack != 0 {
			closing = flow.Over
		}
		if flags&rst != 0 {
			open, closing = flow.Over, flow.Over
		}
		for _, last := range []int64{0, 5, ticks - 60} {
			for _, now := range []int64{last, last + 1, last + 59, last + 60} {
				steps(t, tcp(flow.Open, last), flags, now, tcp(open, now), api.OK)
				steps(t, tcp(flow.Fin, last), flags, now, tcp(closing, now), api.OK)
				steps(t, tcp(flow.Over, last), flags, now, flow.Flow{}, api.ErrState)
			}
			for _, now := range []int64{last, last + 1, last + 20} {
				if flags == 0 {
					steps(t, udp(last), flags, now, udp(now), api.OK)
				} else {
					steps(t, udp(last), flags, now, flow.Flow{}, api.ErrArg)
				}
			}
		}
	}
	steps(t, tcp(flow.Open, ticks), 0, ticks, tcp(flow.Open, ticks), api.OK)
	steps(t, udp(ticks), 0, ticks, udp(ticks), api.OK)
}

// TestStepOfWrong: of several errors the one that is named first: what can't be, what is old, what lives no more.
func TestStepOfWrong(t *testing.T) {
	for _, f := range wrongs() {
		for _, flags := range append(noFlags(), 0, fin, rst, 255) {
			for _, now := range append(noTimes(), 0, f.Last, 5, 6, ticks) {
				steps(t, f, flags, now, flow.Flow{}, api.ErrArg)
			}
		}
	}
	for _, f := range rights() {
		for _, flags := range noFlags() {
			for _, now := range append(noTimes(), 0, f.Last-1, f.Last, f.Last+61) {
				steps(t, f, flags, now, flow.Flow{}, api.ErrArg)
			}
		}
		for _, now := range noTimes() {
			steps(t, f, 0, now, flow.Flow{}, api.ErrArg)
			steps(t, f, rst, now, flow.Flow{}, api.ErrArg)
		}
		for _, now := range []int64{0, f.Last - 100, f.Last - 1} {
			if now >= 0 && now < f.Last {
				steps(t, f, 0, now, flow.Flow{}, api.ErrOld)
			}
		}
		for _, now := range []int64{f.Last + 61, f.Last + 62, f.Last + 1000, ticks} {
			if now <= ticks && now > f.Last+60 {
				steps(t, f, 0, now, flow.Flow{}, api.ErrState)
			}
		}
	}
	steps(t, udp(5), 0, 26, flow.Flow{}, api.ErrState)
	steps(t, tcp(flow.Open, 5), fin|rst|ack, 66, flow.Flow{}, api.ErrState)
	steps(t, tcp(flow.Over, 5), rst, 4, flow.Flow{}, api.ErrOld)
}

// TestExample is the document's.
func TestExample(t *testing.T) {
	f, e := flow.Begin(api.Tcp, api.Syn, 5)
	if f != tcp(flow.Open, 5) || e != api.OK || flow.End(f) != 66 {
		t.Fatalf("Begin = %v, %d, which ends at %d", f, e, flow.End(f))
	}
	steps(t, f, fin, 7, tcp(flow.Fin, 7), api.OK)
	steps(t, tcp(flow.Fin, 7), ack, 8, tcp(flow.Over, 8), api.OK)
}

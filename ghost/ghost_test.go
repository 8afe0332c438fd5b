package ghost_test

import (
	"fmt"
	"math"
	"slices"
	"sync"
	"testing"

	"steelyard/api"
	"steelyard/fleet"
	"steelyard/ghost"
)

// TestNew: nothing has been seen.
func TestNew(t *testing.T) {
	for _, m := range []*ghost.Model{ghost.New(), {}} {
		for _, now := range []int64{math.MinInt64, -1, 0, 1, ticks, math.MaxInt64} {
			if len(m.Flows(now)) != 0 || m.Open(now) != 0 {
				t.Errorf("at %d: %v, %d", now, m.Flows(now), m.Open(now))
			}
		}
		if m.Seen() != 0 || m.Freed(2, 1) || m.Freed(0, 0) || m.Freed(-1, math.MinInt64) {
			t.Errorf("Seen = %d", m.Seen())
		}
		goes(t, m, granted(0, 0, 1, tcp(1), 4), framed(t, 1, 0, tcp(1)), dropped(0, 0, 0), freed(0, 0, 3, 1))
	}
	if m := (&ghost.Model{}); !m.Step(freed(0, 0, 3, 1)) || !m.Step(granted(0, 0, 1, tcp(1), 4)) {
		t.Error("a model that New did not make has something against it")
	}
}

// TestNil: of nil there is nothing, and nothing may be.
func TestNil(t *testing.T) {
	var m *ghost.Model
	for _, s := range []fleet.Seen{{}, granted(0, 0, 1, tcp(1), 4), framed(t, 1, 0, tcp(1)), dropped(0, 0, 0), freed(0, 0, 3, 1)} {
		if m.Step(s) {
			t.Errorf("%+v may be", s)
		}
	}
	if len(m.Flows(0)) != 0 || m.Freed(3, 1) || m.Open(0) != 0 || m.Seen() != 0 || m.Close() || m.Close() {
		t.Error("there is something of nil")
	}
}

// TestFlows: those that live then, by owners, then by tuples, whatever the model's time.
func TestFlows(t *testing.T) {
	four, six, u := tcp(5), tcp6(1), udp(3)
	m := behind(t, granted(9, 1, 0, six, 1), granted(9, 1, 0, u, 1), granted(0, 2, 0, u, 2), granted(9, 2, 0, four, 2), granted(15, 3, 0, four, 3), granted(0, 3, 0, tcp(4), 3))
	l := []ghost.Flow{{Owner: 0, T: tcp(4)}, {Owner: 0, T: u}, {Owner: 9, T: four}, {Owner: 9, T: six}, {Owner: 9, T: u}, {Owner: 15, T: four}}
	from := []int64{3, 2, 2, 1, 1, 3}
	till := []int64{63, 22, 62, 61, 21, 63}
	for _, now := range []int64{math.MinInt64, -1, 0, 1, 2, 3, 20, 21, 22, 23, 60, 61, 62, 63, 64, ticks, math.MaxInt64} {
		var want []ghost.Flow
		for i, f := range l {
			f.Backend, f.Gen = 2, 1
			if from[i] <= now && now <= till[i] {
				want = append(want, f)
			}
		}
		if got := m.Flows(now); fmt.Sprint(got) != fmt.Sprint(want) {
			t.Errorf("Flows(%d) = %v, want %v", now, got, want)
		}
	}
	got := m.Flows(3)
	got[0].Owner = 7
	if m.Flows(3)[0].Owner != 0 {
		t.Error("what is written into an answer is seen by a later one")
	}
}

// TestFlowsGo: a packet moves them on, or ends them; another flow of the same tuple may go elsewhere.
func TestFlowsGo(t *testing.T) {
	x := tcp(1)
	m := behind(t, granted(3, 0, 0, x, 0), more(3, 40, 0, x, 40), dropped(0, 100, 1))
	if len(m.Flows(39)) != 0 || len(m.Flows(40)) != 1 || len(m.Flows(100)) != 1 || len(m.Flows(101)) != 0 {
		t.Errorf("%v, %v, %v, %v", m.Flows(39), m.Flows(40), m.Flows(100), m.Flows(101))
	}
	s := more(3, 100, 0, x, 100)
	s.Grant.Flags = api.Rst
	goes(t, m, s)
	for now := range int64(200) {
		if len(m.Flows(now)) != 0 {
			t.Fatalf("Flows(%d) = %v", now, m.Flows(now))
		}
	}
	s = granted(3, 100, 0, x, 100)
	s.Grant.Backend, s.Grant.Gen = 5, 7
	goes(t, m, s)
	if l := m.Flows(100); len(l) != 1 || l[0] != (ghost.Flow{Owner: 3, T: x, Backend: 5, Gen: 7}) {
		t.Errorf("Flows = %v", l)
	}
}

// TestOpen: grants that may be used at a time, whatever the model's time; a frame takes one.
func TestOpen(t *testing.T) {
	x := tcp(1)
	m := behind(t, granted(0, 0, 1, x, 9), more(0, 1, 1, x, 4), more(0, 1, 2, x, 4), granted(1, 2, 1, x, 2), more(0, 3, 1, x, 9))
	for now, want := range map[int64]int{math.MinInt64: 5, 0: 5, 2: 5, 3: 4, 4: 4, 5: 2, 9: 2, 10: 0, math.MaxInt64: 0} {
		if m.Open(now) != want {
			t.Errorf("Open(%d) = %d, want %d", now, m.Open(now), want)
		}
	}
	goes(t, m, framed(t, 1, 4, x))
	for now, want := range map[int64]int{0: 4, 2: 4, 3: 3, 4: 3, 5: 2, 9: 2, 10: 0} {
		if m.Open(now) != want {
			t.Errorf("behind a frame: Open(%d) = %d, want %d", now, m.Open(now), want)
		}
	}
	goes(t, m, framed(t, 1, 4, x), framed(t, 2, 4, x), framed(t, 1, 9, x))
	fails(t, m, framed(t, 1, 9, x), framed(t, 2, 9, x))
	if m.Open(0) != 1 || m.Open(2) != 1 || m.Open(3) != 0 { // the one that nobody used in time
		t.Errorf("Open = %d, %d", m.Open(0), m.Open(3))
	}
}

// TestFreed: just those that were seen as released.
func TestFreed(t *testing.T) {
	m := behind(t, freed(0, 0, 0, 1), freed(15, 0, 31, ticks), freed(3, 1, 7, 2), freed(4, 1, 7, 2))
	for backend := -1; backend <= 32; backend++ {
		for _, gen := range []int64{math.MinInt64, -1, 0, 1, 2, 3, ticks - 1, ticks, ticks + 1, math.MaxInt64} {
			want := backend == 0 && gen == 1 || backend == 31 && gen == ticks || backend == 7 && gen == 2
			if m.Freed(backend, gen) != want {
				t.Errorf("Freed(%d, %d) = %t", backend, gen, !want)
			}
		}
	}
}

// TestClose: true once; from then on nothing may be, and all can be asked still.
func TestClose(t *testing.T) {
	m := behind(t, granted(0, 0, 1, tcp(1), 4), freed(0, 0, 3, 1), dropped(0, 1, 1))
	if !m.Close() || m.Close() || m.Close() {
		t.Error("it was not closed just once")
	}
	fails(t, m, framed(t, 1, 1, tcp(1)), granted(0, 1, 1, tcp(2), 4), dropped(0, 1, 0), freed(0, 1, 4, 1), fleet.Seen{})
	if m.Seen() != 3 || !m.Freed(3, 1) || m.Open(4) != 1 || len(m.Flows(4)) != 1 || m.Close() {
		t.Error(state(m, 9))
	}
}

// TestSeenIsAskedByOthers: while things are seen; of all that close at once one is the first.
func TestSeenIsAskedByOthers(t *testing.T) {
	m := ghost.New()
	var w sync.WaitGroup
	for range 4 {
		w.Go(func() {
			for last := int64(0); last < 500; {
				n := m.Seen()
				if n < last || n > 500 {
					t.Errorf("Seen = %d behind %d", n, last)
					return
				}
				last = n
			}
		})
	}
	for now := range int64(500) {
		m.Step(dropped(0, now, 0))
		m.Step(dropped(0, now, 12))
	}
	w.Wait()
	first := make(chan bool, 8)
	for range 8 {
		w.Go(func() { first <- m.Close() })
	}
	w.Wait()
	n := 0
	for range 8 {
		if <-first {
			n++
		}
	}
	if n != 1 {
		t.Errorf("%d closed it", n)
	}
}

// TestCheck: how many there are, or the place of the first that may not be, whatever comes behind.
func TestCheck(t *testing.T) {
	checks := func(want int, ok bool, l ...fleet.Seen) {
		t.Helper()
		if n, is := ghost.Check(l); n != want || is != ok {
			t.Errorf("Check = %d, %t, want %d, %t", n, is, want, ok)
		}
	}
	x := tcp(1)
	grant, frame, free := granted(0, 0, 1, x, 9), framed(t, 1, 0, x), freed(0, 0, 2, 1)
	checks(0, true)
	if n, ok := ghost.Check(nil); n != 0 || !ok {
		t.Errorf("Check of nil = %d, %t", n, ok)
	}
	checks(2, false, grant, frame, free) // the document's example
	checks(2, true, grant, frame)
	checks(3, true, grant, frame, freed(0, 61, 2, 1))
	checks(2, false, grant, frame, freed(0, 60, 2, 1))
	checks(0, false, frame, grant, frame)
	checks(2, false, grant, frame, frame, grant)
	checks(1, false, free, grant)
	checks(0, false, fleet.Seen{})
	checks(1, true, grant) // each time of a new model
	l := []fleet.Seen{grant, frame}
	was := fmt.Sprintf("%+v", l)
	checks(2, true, l...)
	if fmt.Sprintf("%+v", l) != was {
		t.Error("what is seen was written into")
	}
}

// TestRounds: 60 for each replica and 400.
func TestRounds(t *testing.T) {
	for nodes := 1; nodes <= 16; nodes++ {
		if n := ghost.Rounds(nodes); n != 60*nodes+400 {
			t.Errorf("Rounds(%d) = %d", nodes, n)
		}
	}
	for _, nodes := range []int{math.MinInt, -65536, -1, 0, 17, 18, 256, 257, 1 << 32, 1<<32 + 1, math.MaxInt} {
		if n := ghost.Rounds(nodes); n != 0 {
			t.Errorf("Rounds(%d) = %d", nodes, n)
		}
	}
}

// TestNotKept: what is written into a frame behind a step changes nothing; nor is it written into.
func TestNotKept(t *testing.T) {
	m := behind(t, granted(0, 0, 1, tcp(1), 9))
	s := framed(t, 1, 0, tcp(1))
	was := slices.Clone(s.Frame.Data)
	goes(t, m, s)
	if !slices.Equal(s.Frame.Data, was) {
		t.Error("a frame was written into")
	}
	is := state(m, 90)
	clear(s.Frame.Data)
	if state(m, 90) != is {
		t.Error("a frame is kept")
	}
}

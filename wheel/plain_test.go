package wheel_test

import (
	"math/rand"
	"slices"
	"testing"

	"steelyard/api"
	"steelyard/wheel"
)

// plain is a wheel by the document's words: a list without an order, gone through for each answer.
type plain struct {
	now int64
	due []wheel.Due
}

func (p *plain) at(id int64) int64 {
	for _, d := range p.due {
		if d.Id == id {
			return d.At
		}
	}
	return 0
}

func (p *plain) set(id, at int64) api.Errno {
	switch {
	case at <= p.now:
		return api.ErrOld
	case at > api.MaxTicks:
		return api.ErrArg
	case p.at(id) == 0 && len(p.due) == 4096:
		return api.ErrFull
	}
	p.drop(id)
	p.due = append(p.due, wheel.Due{Id: id, At: at})
	return api.OK
}

func (p *plain) drop(id int64) bool {
	n := len(p.due)
	p.due = slices.DeleteFunc(p.due, func(d wheel.Due) bool { return d.Id == id })
	return len(p.due) < n
}

func (p *plain) advance(to int64) ([]wheel.Due, api.Errno) {
	if to < p.now {
		return nil, api.ErrOld
	}
	if to > api.MaxTicks {
		return nil, api.ErrArg
	}
	p.now = to
	var l, rest []wheel.Due
	for _, d := range p.due {
		if d.At <= to {
			l = append(l, d)
		} else {
			rest = append(rest, d)
		}
	}
	p.due = rest
	slices.SortFunc(l, order)
	return l, api.OK
}

// both is a wheel and a plain one, of which the same is asked.
type both struct {
	w *wheel.Wheel
	p *plain
}

func pair(t testing.TB, now int64) both {
	t.Helper()
	return both{made(t, now), &plain{now: now}}
}

func (b both) set(t testing.TB, id, at int64) {
	t.Helper()
	if e, want := b.w.Set(id, at), b.p.set(id, at); e != want {
		t.Fatalf("at %d: Set(%d, %d): %d, want %d", b.p.now, id, at, e, want)
	}
}

func (b both) drop(t testing.TB, id int64) {
	t.Helper()
	if ok, want := b.w.Drop(id), b.p.drop(id); ok != want {
		t.Fatalf("at %d: Drop(%d) = %v", b.p.now, id, ok)
	}
}

func (b both) advance(t testing.TB, to int64) {
	t.Helper()
	now := b.p.now
	l, e := b.w.Advance(to)
	if want, f := b.p.advance(to); !slices.Equal(l, want) || e != f {
		t.Fatalf("at %d: Advance(%d) = %v, %d, want %v, %d", now, to, l, e, want, f)
	}
}

// does asks one thing of both by some numbers, and fails unless they answer alike and stand alike then.
func (b both) does(t testing.TB, op int, id, ticks int64) {
	t.Helper()
	switch op % 6 {
	case 0:
		b.drop(t, id)
	case 1:
		b.advance(t, b.p.now+ticks)
	default:
		b.set(t, id, b.p.now+ticks)
	}
	stands(t, b.w, b.p.now, b.p.due...)
	if b.w.At(id) != b.p.at(id) {
		t.Fatalf("%d is due at %d, want %d", id, b.w.At(id), b.p.at(id))
	}
}

// TestByChance holds wheels against plain ones, step by step: with few ticks and with many between them, and at the end of all time.
func TestByChance(t *testing.T) {
	rnd := rand.New(rand.NewSource(1))
	for i := range 600 {
		b := pair(t, []int64{0, 50, 1 << 30, api.MaxTicks - 500}[i%4])
		most := []int64{3, 20, 64, 70, 150, 1000}[i/4%6]
		for range 200 {
			ticks := rnd.Int63n(most+4) - 2
			if rnd.Intn(100) == 0 {
				ticks <<= rnd.Intn(50)
			}
			b.does(t, rnd.Intn(6), rnd.Int63n(20)-5, ticks)
		}
	}
}

// TestOnce is P18.3: whatever is set is told once, at its time, or is dropped, or set anew.
func TestOnce(t *testing.T) {
	rnd := rand.New(rand.NewSource(2))
	for range 200 {
		w := made(t, 0)
		waits := map[int64]int64{} // when each thing is to be told
		for now := int64(0); now < 1000; {
			for range rnd.Intn(5) {
				id := rnd.Int63n(50)
				if rnd.Intn(4) == 0 {
					if _, ok := waits[id]; w.Drop(id) != ok {
						t.Fatalf("Drop(%d) is not %v", id, ok)
					}
					delete(waits, id)
				} else {
					waits[id] = now + 1 + rnd.Int63n(200)
					set(t, w, id, waits[id])
				}
			}
			now += rnd.Int63n(90)
			told(t, w, now, waits)
		}
		told(t, w, 2000, waits)
		if len(waits) > 0 {
			t.Fatalf("%v were never told", waits)
		}
	}
}

// told: the clock goes on; what is told is what was to be told up to there, and waits no more.
func told(t *testing.T, w *wheel.Wheel, to int64, waits map[int64]int64) {
	t.Helper()
	l, e := w.Advance(to)
	if e != api.OK {
		t.Fatalf("Advance(%d): %d", to, e)
	}
	for _, d := range l {
		if waits[d.Id] != d.At || d.At > to {
			t.Fatalf("at %d: %v is told, want %d", to, d, waits[d.Id])
		}
		delete(waits, d.Id)
	}
	for id, at := range waits {
		if at <= to {
			t.Fatalf("at %d: %d is not told, due at %d", to, id, at)
		}
	}
}

// TestSteps is P18.3: in two steps, or in many, the same is told as in one.
func TestSteps(t *testing.T) {
	rnd := rand.New(rand.NewSource(3))
	for i := range 500 {
		now := []int64{0, 61, api.MaxTicks - 1000}[i%3]
		one, two, many := made(t, now), made(t, now), made(t, now)
		for range rnd.Intn(60) {
			id, at := rnd.Int63n(100), now+1+rnd.Int63n(300)
			for _, w := range []*wheel.Wheel{one, two, many} {
				set(t, w, id, at)
			}
		}
		to := now + rnd.Int63n(350)
		all, _ := one.Advance(to)
		first, _ := two.Advance(now + rnd.Int63n(to-now+1))
		second, _ := two.Advance(to)
		var each []wheel.Due
		for at := now; at <= to; at++ {
			l, _ := many.Advance(at)
			each = append(each, l...)
		}
		if !slices.Equal(slices.Concat(first, second), all) || !slices.Equal(each, all) {
			t.Fatalf("from %d to %d: %v and %v, %v, want %v", now, to, first, second, each, all)
		}
		rest, _ := one.Advance(to + 400)
		for _, w := range []*wheel.Wheel{two, many} {
			passes(t, w, to+400, rest...)
		}
	}
}

// TestGreatSteps: however far the clock goes, it takes no time for the ticks between.
func TestGreatSteps(t *testing.T) {
	w := made(t, 0)
	for n := int64(1); n <= 40; n++ {
		set(t, w, -n, 1<<n)
		set(t, w, n, api.MaxTicks-n)
	}
	for n := int64(1); n < 40; n++ {
		passes(t, w, 1<<n, wheel.Due{Id: -n, At: 1 << n})
	}
	var want []wheel.Due
	for n := int64(40); n > 0; n-- {
		want = append(want, wheel.Due{Id: n, At: api.MaxTicks - n})
	}
	passes(t, w, api.MaxTicks, append(want, wheel.Due{Id: -40, At: api.MaxTicks})...)
	refused(t, w, 1, api.MaxTicks, api.ErrOld)
	stands(t, w, api.MaxTicks)
}

// FuzzWheel: whatever is asked, it is answered as by the plain one.
func FuzzWheel(f *testing.F) {
	f.Add([]byte{2, 7, 5, 0, 2, 3, 5, 0, 2, 9, 2, 0, 1, 0, 5, 0}, int64(0))
	f.Add([]byte{2, 7, 65, 0, 2, 3, 200, 4, 1, 0, 64, 0, 0, 7, 0, 0, 1, 0, 255, 9}, int64(api.MaxTicks-300))
	f.Fuzz(func(t *testing.T, script []byte, now int64) {
		w, e := wheel.New(now)
		if (e == api.OK) != (now >= 0 && now <= api.MaxTicks) || (w == nil) != (e != api.OK) {
			t.Fatalf("New(%d) = %v, %d", now, w, e)
		}
		if e != api.OK {
			return
		}
		b := both{w, &plain{now: now}}
		for i := 0; i+3 < min(len(script), 1200); i += 4 {
			b.does(t, int(script[i]), int64(int8(script[i+1])), (int64(script[i+2])-3)<<(script[i+3]%64))
		}
	})
}

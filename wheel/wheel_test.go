package wheel_test

import (
	"math"
	"slices"
	"testing"

	"steelyard/api"
	"steelyard/wheel"
)

// made: a wheel.
func made(t testing.TB, now int64) *wheel.Wheel {
	t.Helper()
	w, e := wheel.New(now)
	if w == nil || e != api.OK {
		t.Fatalf("New(%d) = %v, %d", now, w, e)
	}
	stands(t, w, now)
	return w
}

// set fails unless Set takes it.
func set(t testing.TB, w *wheel.Wheel, id, at int64) {
	t.Helper()
	if e := w.Set(id, at); e != api.OK || w.At(id) != at {
		t.Fatalf("Set(%d, %d): %d; it is due at %d", id, at, e, w.At(id))
	}
}

// passes fails unless Advance tells these.
func passes(t testing.TB, w *wheel.Wheel, to int64, want ...wheel.Due) {
	t.Helper()
	from := w.Now()
	if l, e := w.Advance(to); !slices.Equal(l, want) || e != api.OK || w.Now() != to {
		t.Fatalf("from %d to %d: Advance = %v, %d, at %d, want %v", from, to, l, e, w.Now(), want)
	}
	for _, d := range want {
		if at := w.At(d.Id); at != 0 {
			t.Fatalf("%d is due at %d still", d.Id, at)
		}
	}
}

// stands fails unless the clock stands there, these are due, and Next is the first one of them.
func stands(t testing.TB, w *wheel.Wheel, now int64, due ...wheel.Due) {
	t.Helper()
	if w.Now() != now || w.Len() != len(due) {
		t.Fatalf("at %d, %d are due, want %d, %d", w.Now(), w.Len(), now, len(due))
	}
	for _, d := range due {
		if w.At(d.Id) != d.At {
			t.Fatalf("%d is due at %d, want %d", d.Id, w.At(d.Id), d.At)
		}
	}
	var first wheel.Due
	if len(due) > 0 {
		first = slices.MinFunc(due, order)
	}
	if d, ok := w.Next(); d != first || ok != (len(due) > 0) {
		t.Fatalf("Next = %v, %v, want %v", d, ok, first)
	}
}

// order: which of two is due first.
func order(a, b wheel.Due) int {
	if a.At < b.At || a.At == b.At && a.Id < b.Id {
		return -1
	}
	return 1
}

// refused fails unless Set refuses it.
func refused(t testing.TB, w *wheel.Wheel, id, at int64, want api.Errno) {
	t.Helper()
	if e := w.Set(id, at); e != want {
		t.Fatalf("Set(%d, %d): %d, want %d", id, at, e, want)
	}
}

// ids: any number is one.
func ids() []int64 {
	return []int64{math.MinInt64, -1 << 32, -65, -1, 0, 1, 63, 64, 65, api.MaxTicks, math.MaxInt64}
}

func TestNew(t *testing.T) {
	for _, now := range []int64{0, 1, 63, 64, 1 << 20, api.MaxTicks - 1, api.MaxTicks} {
		w := made(t, now)
		passes(t, w, now)
		for _, id := range ids() {
			if w.At(id) != 0 || w.Drop(id) {
				t.Errorf("New(%d): %d is due", now, id)
			}
		}
	}
	for _, now := range []int64{math.MinInt64, -1 << 40, -1, api.MaxTicks + 1, 1 << 41, math.MaxInt64} {
		if w, e := wheel.New(now); w != nil || e != api.ErrArg {
			t.Errorf("New(%d) = %v, %d", now, w, e)
		}
	}
}

// TestExample is the document's.
func TestExample(t *testing.T) {
	w := made(t, 0)
	set(t, w, 7, 5)
	set(t, w, 3, 5)
	set(t, w, 9, 2)
	stands(t, w, 0, wheel.Due{Id: 9, At: 2}, wheel.Due{Id: 3, At: 5}, wheel.Due{Id: 7, At: 5})
	passes(t, w, 5, wheel.Due{Id: 9, At: 2}, wheel.Due{Id: 3, At: 5}, wheel.Due{Id: 7, At: 5})
	stands(t, w, 5)
}

// TestOfNil: ErrNil goes ahead of all other errors.
func TestOfNil(t *testing.T) {
	var w *wheel.Wheel
	for _, at := range []int64{math.MinInt64, -1, 0, 1, api.MaxTicks, api.MaxTicks + 1, math.MaxInt64} {
		if l, e := w.Advance(at); len(l) != 0 || e != api.ErrNil {
			t.Errorf("Advance(%d) = %v, %d", at, l, e)
		}
		for _, id := range ids() {
			refused(t, w, id, at, api.ErrNil)
			if w.At(id) != 0 || w.Drop(id) {
				t.Errorf("%d is due", id)
			}
		}
	}
	stands(t, w, 0)
}

// TestOfNoNew: one that New did not make stands at 0, and panics at nothing.
func TestOfNoNew(t *testing.T) {
	w := new(wheel.Wheel)
	stands(t, w, 0)
	passes(t, w, 0)
	if w.Drop(0) {
		t.Error("0 is due")
	}
	set(t, w, 1, 100)
	set(t, w, 0, 3)
	passes(t, w, 100, wheel.Due{Id: 0, At: 3}, wheel.Due{Id: 1, At: 100})
}

// TestSetOfWrong: of several errors the one that is named first; nothing is changed by them, be the thing due or not.
func TestSetOfWrong(t *testing.T) {
	for _, now := range []int64{0, 7, 64, api.MaxTicks - 1, api.MaxTicks} {
		w := made(t, now)
		var due []wheel.Due
		if now < api.MaxTicks {
			set(t, w, 5, now+1)
			due = append(due, wheel.Due{Id: 5, At: now + 1})
		}
		for _, id := range append(ids(), 5) {
			for _, at := range []int64{math.MinInt64, -1 << 40, -1, 0, now - 65, now - 64, now - 1, now} {
				refused(t, w, id, at, api.ErrOld)
			}
			for _, at := range []int64{api.MaxTicks + 1, api.MaxTicks + 64, math.MaxInt64 - 64, math.MaxInt64} {
				refused(t, w, id, at, api.ErrArg)
			}
			stands(t, w, now, due...)
		}
		passes(t, w, api.MaxTicks, due...)
	}
}

// fill: a wheel on which as many things are due as there may be, and these.
func fill(t *testing.T) (*wheel.Wheel, []wheel.Due) {
	t.Helper()
	w := made(t, 10)
	var due []wheel.Due
	for i := range int64(4096) {
		due = append(due, wheel.Due{Id: i*3 - 5000, At: 11 + i*i%200})
		set(t, w, due[i].Id, due[i].At)
	}
	slices.SortFunc(due, order)
	stands(t, w, 10, due...)
	return w, due
}

// TestFull: at the limit nothing more is set, but what is due may be set anew; what is gone makes room.
func TestFull(t *testing.T) {
	w, due := fill(t)
	for _, id := range []int64{math.MinInt64, -4999, 1 << 40, math.MaxInt64} {
		refused(t, w, id, 11, api.ErrFull)
		refused(t, w, id, api.MaxTicks, api.ErrFull)
		refused(t, w, id, 10, api.ErrOld) // named ahead of it
		refused(t, w, id, api.MaxTicks+1, api.ErrArg)
	}
	stands(t, w, 10, due...)
	for _, d := range due[:100] { // anew, at the same time and at another one
		set(t, w, d.Id, d.At)
		set(t, w, d.Id, 5000)
		set(t, w, d.Id, d.At)
	}
	if !w.Drop(due[0].Id) || w.Drop(due[0].Id) {
		t.Error("Drop")
	}
	stands(t, w, 10, due[1:]...)
	set(t, w, math.MaxInt64, 500)
	refused(t, w, due[0].Id, due[0].At, api.ErrFull)
	passes(t, w, due[1].At-1)
	refused(t, w, due[0].Id, 500, api.ErrFull)
	passes(t, w, 210, due[1:]...)
	stands(t, w, 210, wheel.Due{Id: math.MaxInt64, At: 500})
	for i := range int64(4095) {
		set(t, w, i, 211+i)
	}
	refused(t, w, 4095, 211, api.ErrFull)
}

// TestManyAtOnce: as many as there may be, at one time, be it near or far, are told by their Ids.
func TestManyAtOnce(t *testing.T) {
	for _, at := range []int64{1, 63, 64, 65, 66, 1000, api.MaxTicks} {
		w := made(t, 0)
		var due []wheel.Due
		for i := range int64(4096) {
			due = append(due, wheel.Due{Id: i - 2000, At: at})
			set(t, w, i*1001%4096-2000, at)
		}
		stands(t, w, 0, due...)
		passes(t, w, at-1)
		passes(t, w, at, due...)
	}
}

// TestAdvanceOfWrong: nothing is changed by what is refused.
func TestAdvanceOfWrong(t *testing.T) {
	for _, now := range []int64{0, 1, 64, 100, api.MaxTicks - 70, api.MaxTicks} {
		w := made(t, now)
		var due []wheel.Due
		for id, at := range []int64{now + 1, now + 64, now + 65, api.MaxTicks} {
			if at <= api.MaxTicks && at > now {
				set(t, w, int64(id), at)
				due = append(due, wheel.Due{Id: int64(id), At: at})
			}
		}
		for _, to := range []int64{math.MinInt64, -1 << 40, -1, now - 64, now - 1} {
			if l, e := w.Advance(to); len(l) != 0 || e != api.ErrOld {
				t.Errorf("at %d: Advance(%d) = %v, %d", now, to, l, e)
			}
		}
		for _, to := range []int64{api.MaxTicks + 1, api.MaxTicks + 64, math.MaxInt64 - 63, math.MaxInt64} {
			if l, e := w.Advance(to); len(l) != 0 || e != api.ErrArg {
				t.Errorf("at %d: Advance(%d) = %v, %d", now, to, l, e)
			}
		}
		stands(t, w, now, due...)
		passes(t, w, now) // where it stands it may stay
		stands(t, w, now, due...)
		passes(t, w, api.MaxTicks, due...)
	}
}

// TestEachDistance: what is due at any distance is told just then, neither a tick ahead nor behind; from any time.
func TestEachDistance(t *testing.T) {
	for _, now := range []int64{0, 1, 63, 64, 65, 1000, api.MaxTicks - 300} {
		for far := int64(1); far <= 300; far++ {
			w := made(t, now)
			d := wheel.Due{Id: -far, At: now + far}
			set(t, w, d.Id, d.At)
			stands(t, w, now, d)
			passes(t, w, d.At-1)
			stands(t, w, d.At-1, d)
			passes(t, w, d.At, d)
			stands(t, w, d.At)
			passes(t, w, min(d.At+200, api.MaxTicks))
		}
	}
}

// TestDrop: what is dropped is told no more, whether it was near, far, or far at first.
func TestDrop(t *testing.T) {
	for _, at := range []int64{1, 5, 63, 64, 65, 128, 129, 1000, api.MaxTicks} {
		for _, from := range []int64{0, 1, 4, 62, 64, 100, 128, 999} {
			if from >= at {
				continue
			}
			w := made(t, 0)
			set(t, w, 7, at)
			set(t, w, 8, at)
			set(t, w, 6, at)
			passes(t, w, from)
			if !w.Drop(7) || w.Drop(7) || w.Drop(5) {
				t.Errorf("at %d: Drop of what is due at %d", from, at)
			}
			stands(t, w, from, wheel.Due{Id: 6, At: at}, wheel.Due{Id: 8, At: at})
			if w.At(7) != 0 {
				t.Errorf("7 is due at %d", w.At(7))
			}
			passes(t, w, at, wheel.Due{Id: 6, At: at}, wheel.Due{Id: 8, At: at})
			if w.Drop(6) || w.Drop(7) {
				t.Error("Drop of what was told")
			}
		}
	}
}

// TestSetAgain: what is set anew is due then, and at no other time; what was told may be set again.
func TestSetAgain(t *testing.T) {
	times := []int64{1, 2, 63, 64, 65, 66, 128, 129, 5000}
	for _, was := range times {
		for _, is := range times {
			w := made(t, 0)
			set(t, w, 1, 64)
			set(t, w, 7, was)
			set(t, w, 7, is)
			due := []wheel.Due{{Id: 1, At: 64}, {Id: 7, At: is}}
			stands(t, w, 0, due...)
			slices.SortFunc(due, order)
			passes(t, w, 5000, due...)
			set(t, w, 7, 5000+was)
			passes(t, w, 5000+was, wheel.Due{Id: 7, At: 5000 + was})
			stands(t, w, 5000+was)
		}
	}
}

// TestOrder: by their times, of the same time the lesser Ids first, in whatever order they were set.
func TestOrder(t *testing.T) {
	want := []wheel.Due{
		{Id: 4, At: 1}, {Id: math.MinInt64, At: 2}, {Id: -1, At: 2}, {Id: 0, At: 2}, {Id: 3, At: 2}, {Id: math.MaxInt64, At: 2}, {Id: 9, At: 64},
		{Id: 8, At: 65}, {Id: -8, At: 66}, {Id: 7, At: 66}, {Id: 10, At: 66}, {Id: -100, At: 130}, {Id: 1, At: 1 << 30},
	}
	for turned := range len(want) {
		w, step := made(t, 0), made(t, 0)
		for i := range want {
			d := want[(i*5+turned)%len(want)]
			set(t, w, d.Id, d.At)
			set(t, step, d.Id, d.At)
		}
		for i, d := range want { // one by one, as Next has them
			stands(t, step, step.Now(), want[i:]...)
			if !step.Drop(d.Id) {
				t.Fatalf("%v is not due", d)
			}
		}
		passes(t, w, 1<<30, want...)
	}
}

// TestAnswersAreTheCallers: what is written into an answer is seen by no later one.
func TestAnswersAreTheCallers(t *testing.T) {
	w := made(t, 0)
	for id := range int64(10) {
		set(t, w, id, 3)
		set(t, w, id+10, 100)
		set(t, w, id+20, 200)
	}
	for n := range int64(3) {
		var want []wheel.Due
		for id := range int64(10) {
			want = append(want, wheel.Due{Id: n*10 + id, At: []int64{3, 100, 200}[n]})
		}
		l, e := w.Advance(want[0].At)
		if !slices.Equal(l, want) || e != api.OK {
			t.Fatalf("Advance = %v, %d, want %v", l, e, want)
		}
		clear(append(l, wheel.Due{Id: 99, At: 99})[:cap(l)])
		clear(l)
	}
	stands(t, w, 200)
}

package store_test

import (
	"testing"

	"steelyard/api"
	"steelyard/flow"
	"steelyard/store"
)

// owner is a store at times that never fall, with what it gave, kept apart from it.
type owner struct {
	s     *store.Store
	now   int64
	gave  map[api.Tuple]store.Pin // the last flow of each tuple, as it was told
	until map[[2]int64]int64      // of each backend and Gen the greatest time that was given
}

func owning(t testing.TB, most int) *owner {
	t.Helper()
	return &owner{made(t, most), 0, map[api.Tuple]store.Pin{}, map[[2]int64]int64{}}
}

// took: a pin was told.
func (o *owner) took(p store.Pin, until int64) {
	o.gave[p.T] = p
	to := [2]int64{int64(p.Backend), p.Gen}
	o.until[to] = max(o.until[to], until)
}

// grant: a packet comes, as a replica asks: to its flow's backend, else to the one that is there for it now.
func (o *owner) grant(t testing.TB, x api.Tuple, flags int, until int64, backend int, gen int64) api.Errno {
	t.Helper()
	was := o.gave[x]
	lived := flow.Live(was.F, o.now)
	p, e := o.s.Packet(x, flags, o.now, until)
	if lived != (e != api.ErrNone) {
		t.Fatalf("at %d: %v: Packet: %d", o.now, was, e)
	}
	if e == api.OK && (p.Backend != was.Backend || p.Gen != was.Gen) {
		t.Fatalf("at %d: %v goes to %d of Gen %d", o.now, was, p.Backend, p.Gen)
	}
	if e == api.ErrNone {
		p, e = o.s.Begin(x, flags, o.now, until, backend, gen)
	}
	if e == api.OK {
		o.took(p, until)
	}
	return e
}

// TestOneBackend is P20.5 and P4: as long as a flow lives all its packets get the backend of its first one, whatever else is asked; P3: what is refused is refused by its error.
func TestOneBackend(t *testing.T) {
	c := by(5)
	for range 60 {
		o, all := owning(t, 40), many(60)
		for range 600 {
			x, flags, backend := one(c, all), one(c, []int{0, 0, api.Syn, api.Ack, api.Fin, api.Rst}), c.Intn(32)
			full := o.s.Len(o.now) == 40
			lived := flow.Live(o.gave[x].F, o.now)
			want := api.OK
			switch {
			case x.Proto == api.Udp && flags != 0:
				want = api.ErrArg
			case !lived && flags == api.Rst:
				want = api.ErrState
			case !lived && full:
				want = api.ErrFull
			}
			if e := o.grant(t, x, flags, o.now+c.Int63n(5), backend, 1+c.Int63n(3)); e != want {
				t.Fatalf("at %d: %v of %d: %d, want %d", o.now, x, flags, e, want)
			}
			if c.Intn(3) == 0 {
				o.s.Sweep(o.now)
			}
			o.now += c.Int63n(4)
		}
	}
}

// TestBusyAgain is P20.6, and P1 of one owner: who has a flow that lives is Busy; who is not gets so by nothing but Begin of it, be there packets of any flows.
func TestBusyAgain(t *testing.T) {
	c := by(6)
	for range 30 {
		o, all := owning(t, 20), many(12)
		free := map[[2]int64]bool{} // those that were not Busy, and had no Begin from then on
		for range 800 {
			x, backend, gen := one(c, all), c.Intn(4), 1+c.Int63n(2)
			flags := one(c, []int{0, 0, api.Ack, api.Fin, api.Rst})
			if _, ok := o.s.Get(x, o.now); ok || c.Intn(4) == 0 {
				if o.grant(t, x, flags, o.now+c.Int63n(9), backend, gen) == api.OK {
					free[[2]int64{int64(o.gave[x].Backend), o.gave[x].Gen}] = false
				}
			}
			o.busy(t, free)
			if c.Intn(8) == 0 {
				o.s.Sweep(o.now)
			}
			o.now += c.Int63n(one(c, []int64{2, 9, 70}))
			o.busy(t, free)
		}
	}
}

// busy fails unless those that are Busy now are those with a flow that lives, or that may be used still; and none of the free ones is.
func (o *owner) busy(t testing.TB, free map[[2]int64]bool) {
	t.Helper()
	for backend := range 4 {
		for gen := int64(1); gen <= 2; gen++ {
			to := [2]int64{int64(backend), gen}
			until, ever := o.until[to]
			live := 0
			for _, p := range o.gave {
				if p.Backend == backend && p.Gen == gen && flow.Live(p.F, o.now) {
					live++
				}
			}
			want := live > 0 || ever && o.now <= until
			uses(t, o.s, backend, gen, o.now, live, until, want)
			if want && free[to] {
				t.Fatalf("at %d: %d of Gen %d is busy again", o.now, backend, gen)
			}
			free[to] = free[to] || !want
		}
	}
}

package letter_test

import (
	"bytes"
	"math/rand"
	"slices"
	"testing"

	"steelyard/api"
	"steelyard/letter"
	"steelyard/pool"
	"steelyard/swim"
)

// sent is a letter on its way.
type sent struct {
	to int
	b  []byte
}

// office is replicas that know nothing of each other but by letters.
type office struct {
	rnd    *rand.Rand
	pools  []*pool.Pool
	parts  []*swim.Swim
	flight []sent
	quiet  bool // is nothing lost, doubled or spoilt any more?
}

func newOffice(t *testing.T, rnd *rand.Rand, nodes int) *office {
	t.Helper()
	o := &office{rnd: rnd}
	for me := range nodes {
		p, e := pool.New(me, nodes)
		s, f := swim.New(me, nodes)
		if e != api.OK || f != api.OK {
			t.Fatalf("New(%d, %d): %d, %d", me, nodes, e, f)
		}
		o.pools, o.parts = append(o.pools, p), append(o.parts, s)
	}
	return o
}

// post: a letter is sent; whatever a replica has to tell goes into one. It may be lost, or be there twice.
func (o *office) post(t *testing.T, to int, l letter.Letter) {
	t.Helper()
	b := asWritten(t, l)
	copies := 1
	if !o.quiet {
		copies = o.rnd.Intn(3)
	}
	for range copies {
		o.flight = append(o.flight, sent{to, bytes.Clone(b)})
	}
}

func (o *office) postAll(t *testing.T, l []swim.Msg) {
	t.Helper()
	for _, m := range l {
		o.post(t, m.To, message(m))
	}
}

// arrive: some letter does, whichever; if its bytes are spoilt nothing comes of it.
func (o *office) arrive(t *testing.T) {
	t.Helper()
	i := o.rnd.Intn(len(o.flight))
	s := o.flight[i]
	o.flight = slices.Delete(o.flight, i, i+1)
	if !o.quiet && o.rnd.Intn(5) == 0 {
		s.b[o.rnd.Intn(len(s.b))] ^= 1 << o.rnd.Intn(8)
		refusedAll(t, s.b)
		return
	}
	l, e := letter.Get(s.b)
	if e != api.OK {
		t.Fatalf("Get(%x): %d", s.b, e)
	}
	switch l.Kind {
	case letter.Updates:
		for _, u := range l.Updates {
			if _, e := o.pools[s.to].Merge(u); e != api.OK {
				t.Fatalf("Merge(%v): %d", u, e)
			}
		}
	case letter.Member:
		o.postAll(t, o.parts[s.to].Take(l.Swim))
	default:
		t.Fatalf("nobody sent %+v", l)
	}
}

// refusedAll fails unless bytes in which one bit was turned are refused.
func refusedAll(t *testing.T, b []byte) {
	t.Helper()
	if l, e := letter.Get(b); e == api.OK || !alike(l, letter.Letter{}) {
		t.Fatalf("Get(%x) = %+v, %d", b, l, e)
	}
}

// change: some replica is told something of some backend; all others are to hear of it.
func (o *office) change(t *testing.T) {
	t.Helper()
	me := o.rnd.Intn(len(o.pools))
	p, backend := o.pools[me], o.rnd.Intn(4)*10
	var u pool.Update
	var e api.Errno
	switch o.rnd.Intn(5) {
	case 0:
		u, e = p.Vote(backend, o.rnd.Intn(2) == 0)
	case 1:
		u, e = p.Do(api.Cmd{Kind: api.CmdDrain, Backend: backend})
	case 2:
		u, e = p.Done(backend)
	default:
		u, e = p.Do(api.Cmd{Kind: api.CmdAdd, Backend: backend, Addr: four(10, 1, byte(o.rnd.Int()), 2), Weight: o.rnd.NormFloat64()})
	}
	l := p.Settle()
	if e == api.OK {
		l = append([]pool.Update{u}, l...)
	}
	for _, u := range l {
		for to := range o.pools {
			if to != me {
				o.post(t, to, updates(u))
			}
		}
	}
}

// meet: each one tells each other one what that one's marks lack, by letters.
func (o *office) meet(t *testing.T) {
	t.Helper()
	for me, p := range o.pools {
		for from, q := range o.pools {
			if m := q.Marks(); from != me && len(m) > 0 {
				l, e := letter.Get(asWritten(t, marks(m...)))
				if e != api.OK {
					t.Fatalf("Get: %d", e)
				}
				if lacks := p.Lacks(l.Marks); len(lacks) > 0 {
					o.post(t, from, updates(lacks...))
				}
			} else if all := p.Lacks(nil); from != me && len(all) > 0 {
				o.post(t, from, updates(all...))
			}
		}
	}
	for len(o.flight) > 0 {
		o.arrive(t)
	}
}

// TestPoolsMeet is P2 of what goes by letters: lost, doubled, late and spoilt; behind a time in which all arrives all know the same, and have the same table.
func TestPoolsMeet(t *testing.T) {
	rnd := rand.New(rand.NewSource(4))
	for range 60 {
		o := newOffice(t, rnd, 2+rnd.Intn(3))
		for range 80 {
			o.change(t)
			for len(o.flight) > 0 && rnd.Intn(3) > 0 {
				o.arrive(t)
			}
		}
		o.quiet = true
		for range 2 {
			o.meet(t)
		}
		for _, p := range o.pools {
			table, e := p.Table(13)
			want, f := o.pools[0].Table(13)
			if !p.Same(o.pools[0]) || !slices.Equal(table, want) || e != f {
				t.Fatalf("%v, %d, want %v, %d; %v, want %v", table, e, want, f, p.Marks(), o.pools[0].Marks())
			}
		}
	}
}

// TestPartsMeet is P2 of who is there, and P16.7 by letters.
func TestPartsMeet(t *testing.T) {
	rnd := rand.New(rand.NewSource(5))
	for range 20 {
		nodes := 2 + rnd.Intn(3)
		o := newOffice(t, rnd, nodes)
		tick := func() {
			for _, s := range o.parts {
				o.postAll(t, s.Tick())
			}
			for len(o.flight) > 0 {
				o.arrive(t)
			}
		}
		for range rnd.Intn(200) {
			tick()
		}
		o.quiet = true
		for range 60*nodes + 200 {
			tick()
		}
		for me, s := range o.parts {
			for node := range nodes {
				if i := s.View().Get(node); i.State != api.Alive {
					t.Fatalf("of %d: %d sees %d as %v", nodes, me, node, i)
				}
			}
		}
	}
}

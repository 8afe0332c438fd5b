package node_test

import (
	"fmt"
	"math"
	"slices"
	"testing"

	"steelyard/api"
	"steelyard/letter"
	"steelyard/node"
	"steelyard/tuple"
)

// TestRight: each number at its edges, all others as they can be.
func TestRight(t *testing.T) {
	far := []int{math.MinInt, -1, 0, 1 << 32, 1<<32 + 2, math.MaxInt}
	for _, c := range []struct {
		name    string
		set     func(c *node.Conf, n int)
		can, no []int
	}{
		{"Nodes", func(c *node.Conf, n int) { c.Nodes = n }, []int{1, 2, 15, 16}, []int{17, 18}},
		{"Slots", func(c *node.Conf, n int) { c.Slots = n }, []int{2, 3, 5, 7, 13, 1013, 1019, 1021}, []int{1, 4, 6, 9, 1001, 1017, 1020, 1022, 1023, 1024, 1031, 65537}},
		{"Flows", func(c *node.Conf, n int) { c.Flows = n }, []int{1, 2, 255, 256}, []int{257, 258}},
		{"Mtu", func(c *node.Conf, n int) { c.Mtu = n }, []int{1, 2, 1500, 65534, 65535}, []int{65536, 65537}},
	} {
		for i, l := range [][]int{c.can, append(c.no, far...)} {
			for _, n := range l {
				x := conf(3)
				c.set(&x, n)
				if is := node.Right(x); is != (i == 0) {
					t.Errorf("of %s %d: Right = %t", c.name, n, is)
				}
				me := 0
				if y, e := node.New(me, x); (y != nil) != (i == 0) || e != []api.Errno{api.OK, api.ErrArg}[i] {
					t.Errorf("of %s %d: New = %v, %d", c.name, n, y, e)
				}
			}
		}
	}
	if node.Right(node.Conf{}) {
		t.Error("Right of nothing")
	}
}

func TestHome(t *testing.T) {
	for i := range 16 {
		if a := node.Home(i, false); a != four(172, 16, 0, byte(i+1)) {
			t.Errorf("Home(%d) = %v", i, a)
		}
		if a := node.Home(i, true); a != six(0xfd, 0, 0, 0, 0, 0, 0, 0, 0, 0, 0, 0, 0, 0, 0, byte(i+1)) {
			t.Errorf("Home(%d) of six = %v", i, a)
		}
	}
	for i, last := range map[int]byte{-1: 0, -2: 255, 254: 255, 255: 0, 256: 1, 1<<32 + 6: 7, math.MaxInt: 0, math.MinInt: 1} {
		if a, b := node.Home(i, false), node.Home(i, true); a != four(172, 16, 0, last) || b.B[0] != 0xfd || b.B[14] != 0 || b.B[15] != last || !b.V6 {
			t.Errorf("Home(%d) = %v, %v", i, a, b)
		}
	}
}

// TestNew: it knows nothing.
func TestNew(t *testing.T) {
	for nodes := 1; nodes <= 16; nodes++ {
		for me := range nodes {
			x := made(t, me, conf(nodes))
			var all []int
			for i := range nodes {
				all = append(all, i)
			}
			if x.Now() != 0 || x.Pool().Clock() != 0 || len(x.Pool().Marks()) > 0 || len(x.Table()) > 0 || !slices.Equal(x.Live(), all) || len(x.Pins()) > 0 || len(x.Waits()) > 0 || x.Waiting() != 0 {
				t.Errorf("%d of %d: %s", me, nodes, state(x))
			}
			counted(t, x)
		}
		for _, me := range noReplicas(nodes) {
			if x, e := node.New(me, conf(nodes)); x != nil || e != api.ErrArg {
				t.Errorf("New(%d) of %d = %v, %d", me, nodes, x, e)
			}
		}
	}
}

// TestOfNil: the empty Result, ErrNil, 0, nil, none.
func TestOfNil(t *testing.T) {
	var x *node.Node
	comes(t, x.Packet(packet(t, tcp(1), 0)), node.Result{})
	comes(t, x.Packet(nil), node.Result{})
	comes(t, x.Letter(0, nil), node.Result{})
	comes(t, x.Letter(1, wrote(t, updates(known(1, 1, api.Active)))), node.Result{})
	comes(t, x.Tick(), node.Result{})
	for _, c := range []api.Cmd{{}, add(1, four(10)), drained(1), {Kind: -1, Backend: -1}} {
		r, e := x.Admin(c)
		comes(t, r, node.Result{})
		if e != api.ErrNil {
			t.Errorf("Admin(%v): %d", c, e)
		}
	}
	for _, backend := range []int{-1, 0, 31, 32} {
		r, e := x.Vote(backend, true)
		comes(t, r, node.Result{})
		if e != api.ErrNil {
			t.Errorf("Vote(%d): %d", backend, e)
		}
	}
	x.Draw(5)
	if x.Now() != 0 || x.Pool() != nil || x.Table() != nil || x.Live() != nil || x.Pins() != nil || x.Waits() != nil || x.Waiting() != 0 || x.Counts() != nil {
		t.Error("it knows something")
	}
}

// TestOfNoNew: one that New did not make panics at nothing.
func TestOfNoNew(t *testing.T) {
	x := new(node.Node)
	for _, b := range append(malformed(t), icmp(t), fragment(t), packet(t, tcp(1), api.Syn), packet(t, udp(9), 0)) {
		if r := x.Packet(b); len(r.Drops) != 1 || len(r.Frames) > 0 {
			t.Errorf("Packet(%x) = %v", b, r)
		}
	}
	for _, from := range append(noReplicas(0), 0) {
		comes(t, hears(t, x, from, updates(known(1, 1, api.Active))), drops(node.Bad))
		comes(t, hears(t, x, from, asked(1, tcp(1), 0)), drops(node.Bad))
	}
	for range 20 {
		comes(t, x.Tick(), node.Result{})
	}
	if r, e := x.Admin(add(1, four(10))); e == api.OK {
		t.Errorf("Admin = %v", r)
	}
	if r, e := x.Vote(1, true); e == api.OK {
		t.Errorf("Vote = %v", r)
	}
	x.Draw(3)
	if len(x.Table()) > 0 || len(x.Live()) > 0 || len(x.Pins()) > 0 || len(x.Waits()) > 0 || x.Waiting() != 0 || x.Counts().Get(node.Bad) != 0 {
		t.Error(state(x))
	}
}

// TestCopies: what is written into an answer is seen by no later one.
func TestCopies(t *testing.T) {
	x := made(t, 0, conf(2))
	r := admin(t, x, add(2, four(10, 1, 0, 2)))
	comes(t, hears(t, x, 1, updates(known(5, 3, api.Draining))), node.Result{})
	for _, p := range owned(t, 0, 2, 0, 1) {
		x.Packet(packet(t, p, 0))
	}
	x.Letter(-1, nil)
	was, count := state(x), x.Counts().Get(node.Bad)
	x.Pool().Do(drained(2))
	clear(x.Table())
	clear(x.Live())
	clear(x.Pins())
	clear(x.Waits()[0].Missing)
	clear(x.Waits())
	x.Counts().Add(node.Bad, 5)
	clear(r.Made)
	clear(r.Out[0].Data)
	if state(x) != was || x.Counts().Get(node.Bad) != count || count != 1 {
		t.Errorf("%s, was %s", state(x), was)
	}
	p := x.Pool()
	c := x.Counts()
	admin(t, x, add(9, four(10)))
	x.Letter(-1, nil)
	if p.Get(9).Gen != 0 || c.Get(node.Bad) != 1 {
		t.Error("what was answered goes on")
	}
}

// TestNoTwoShare: what is sent to two shares nothing; nor does what was Made with the pool.
func TestNoTwoShare(t *testing.T) {
	x := made(t, 0, conf(4))
	admin(t, x, add(2, four(10, 1, 0, 2)))
	r, e := x.Vote(2, true)
	if e != api.OK || len(r.Out) != 3 || len(r.Made) != 1 {
		t.Fatalf("%v, %d", r, e)
	}
	want := string(r.Out[1].Data)
	for i := range r.Out[0].Data {
		r.Out[0].Data[i] = 0xff
	}
	_ = append(r.Out[0].Data, 1, 2, 3)
	r.Made[0].Rec.Votes[0].Ok = false
	if string(r.Out[1].Data) != want || string(r.Out[2].Data) != want || !x.Pool().Get(2).Votes[0].Ok {
		t.Errorf("%v, of which is known %v", r, x.Pool().Get(2))
	}
}

// TestAdmin: the pool's error; else all others that are not given up hear of it, rising.
func TestAdmin(t *testing.T) {
	x := made(t, 1, conf(4))
	was := state(x)
	for _, c := range []struct {
		c    api.Cmd
		want api.Errno
	}{{api.Cmd{}, api.ErrArg}, {api.Cmd{Kind: 3, Backend: 2}, api.ErrArg}, {add(-1, four()), api.ErrArg}, {add(32, four()), api.ErrArg}, {add(2, four(1, 2, 3, 4, 5)), api.ErrArg}, {drained(2), api.ErrNone}} {
		r, e := x.Admin(c.c)
		comes(t, r, node.Result{})
		if e != c.want || state(x) != was {
			t.Errorf("Admin(%v): %d; %s", c.c, e, state(x))
		}
	}
	u := known(2, 1, api.Active)
	u.Rec.Spec.By = 1
	all := func(l letter.Letter) node.Result {
		return node.Result{Out: []node.Out{out(t, 0, l), out(t, 2, l), out(t, 3, l)}, Made: l.Updates}
	}
	comes(t, admin(t, x, add(2, four(10, 1, 0, 2))), all(updates(u)))
	if got := x.Table(); !slices.Equal(got, []int{2, 2, 2, 2, 2, 2, 2, 2, 2, 2, 2, 2, 2}) {
		t.Errorf("Table = %v", got)
	}
	u.Rec.Life = api.Draining
	comes(t, admin(t, x, drained(2)), all(updates(u)))
	if got := x.Table(); len(got) != 0 {
		t.Errorf("Table = %v", got)
	}
	if r, e := x.Admin(add(2, four())); e != api.ErrState || fmt.Sprint(r) != fmt.Sprint(node.Result{}) {
		t.Errorf("Admin = %v, %d", r, e)
	}
}

// TestVote: likewise; a backend that enough find not well has no slots any more.
func TestVote(t *testing.T) {
	x := made(t, 0, conf(2))
	for _, backend := range []int{math.MinInt, -1, 32, math.MaxInt, 2} {
		r, e := x.Vote(backend, false)
		comes(t, r, node.Result{})
		want := api.ErrArg
		if backend == 2 {
			want = api.ErrNone
		}
		if e != want {
			t.Errorf("Vote(%d): %d", backend, e)
		}
	}
	admin(t, x, add(2, four(10, 1, 0, 2)))
	for i, ok := range []bool{true, false, true} {
		r, e := x.Vote(2, ok)
		u := x.Pool().Get(2)
		if e != api.OK || len(u.Votes) != 1 || u.Votes[0].Ok != ok || u.Votes[0].Stamp != int64(i+2) {
			t.Fatalf("Vote: %d, %v", e, u)
		}
		if has := len(x.Table()) > 0; has != ok {
			t.Errorf("found well: %t, has slots: %t", ok, has)
		}
		l := known(2, 1, api.Active)
		l.Rec = u
		comes(t, r, node.Result{Out: []node.Out{out(t, 1, updates(l))}, Made: updates(l).Updates})
	}
}

// TestCountsEnd: no number goes round.
func TestCountsEnd(t *testing.T) {
	x := made(t, 0, conf(1))
	c := x.Counts()
	c.Add(node.Bad, math.MaxUint64)
	if c.Get(node.Bad) != 1<<32-1 {
		t.Errorf("the most is %d", c.Get(node.Bad))
	}
	for kind := range tuple.Kinds {
		if x.Counts().Get(kind) != 0 {
			t.Errorf("of the kind %d: %d", kind, x.Counts().Get(kind))
		}
	}
}

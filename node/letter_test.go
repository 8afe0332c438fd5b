package node_test

import (
	"slices"
	"testing"

	"steelyard/api"
	"steelyard/letter"
	"steelyard/life"
	"steelyard/member"
	"steelyard/node"
	"steelyard/pool"
	"steelyard/swim"
)

// message: a letter of Member.
func message(m swim.Msg) letter.Letter {
	return letter.Letter{Kind: letter.Member, Swim: m}
}

// says: a replica says of another one, to a third one, how it is.
func says(t testing.TB, x *node.Node, me, from, of int, i member.Info) node.Result {
	t.Helper()
	return hears(t, x, from, message(swim.Msg{Kind: swim.Ack, To: me, From: from, Seq: 1, News: []swim.Item{{Node: of, Info: i}}}))
}

// gone: the replica 0 hears of another one that it is given up.
func gone(t testing.TB, x *node.Node, of int) {
	t.Helper()
	says(t, x, 0, of, of, member.Info{State: api.Dead, Inc: 5})
	if slices.Contains(x.Live(), of) {
		t.Fatalf("Live = %v", x.Live())
	}
}

// letters: one of each kind, from the replica 1 to the replica 0.
func letters() []letter.Letter {
	return []letter.Letter{
		message(swim.Msg{Kind: swim.Ping, To: 0, From: 1, Seq: 7}),
		updates(known(3, 1, api.Active)),
		{Kind: letter.Marks, Marks: []pool.Mark{{Backend: 2, Sum: 5}}},
		asked(1, tcp(1), api.Syn),
		told(letter.Answer{Id: 1, Backend: 9, Gen: 4, Addr: four(10), Until: 100}),
		told(letter.Answer{Id: 1, Why: letter.NoOne}),
	}
}

// TestBad: of no other replica, or bytes that are no letter; nothing changes but a count.
func TestBad(t *testing.T) {
	x := made(t, 0, conf(3))
	admin(t, x, add(2, four(10)))
	x.Packet(packet(t, owned(t, 1, 1, 0, 1, 2)[0], 0))
	x.Packet(packet(t, owned(t, 0, 1, 0, 1, 2)[0], 0))
	was, n := state(x), uint64(0)
	bad := func(from int, b []byte) {
		t.Helper()
		n++
		comes(t, x.Letter(from, b), drops(node.Bad))
		counted(t, x, 0, 0, 0, 0, 0, 0, 0, 0, 0, n)
		if state(x) != was {
			t.Fatalf("of %x from %d: %s, was %s", b, from, state(x), was)
		}
	}
	for _, l := range letters() {
		b := wrote(t, l)
		for _, from := range append(noReplicas(3), 0) {
			bad(from, b)
		}
		for i := range b {
			c := slices.Clone(b)
			c[i] ^= 1 << (i % 8)
			bad(1, c)
			bad(1, b[:i])
		}
		bad(1, append(slices.Clone(b), 0))
		bad(2, nil)
	}
	for _, from := range []int{0, 2, 3, 15} { // one of Member that is not from whom it came
		bad(1, wrote(t, message(swim.Msg{Kind: swim.Ping, To: 0, From: from, Seq: 7})))
	}
	bad(2, wrote(t, letters()[0]))
	comes(t, hears(t, x, 2, asked(9, udp(1), 0)), node.Result{
		Grants: []node.Grant{{From: 2, T: udp(1), Backend: 2, Gen: 1, Until: 4, New: true}},
		Out:    []node.Out{out(t, 2, told(letter.Answer{Id: 9, Backend: 2, Gen: 1, Addr: four(10), Until: 4}))},
	})
}

// TestMember: messages are as a part of swim by itself takes them, and what it sends goes as letters to whom it is for.
func TestMember(t *testing.T) {
	x := made(t, 0, conf(4))
	s, _ := swim.New(0, 4)
	for i, m := range []swim.Msg{
		{Kind: swim.Ping, From: 1, Seq: 7},
		{Kind: swim.Ping, From: 3, Seq: ticks, News: []swim.Item{{Node: 2, Info: member.Info{State: api.Suspect}}, {Node: 0, Info: member.Info{State: api.Dead, Inc: ticks}}}},
		{Kind: swim.Req, From: 1, Seq: 8, Target: 3},
		{Kind: swim.Req, From: 1, Seq: 8, Target: 1},
		{Kind: swim.Ack, From: 3, Seq: 1, News: []swim.Item{{Node: 15, Info: member.Info{State: api.Dead}}}},
		{Kind: swim.Ack, From: 3, Seq: 1},
		{Kind: swim.Ping, To: 2, From: 1, Seq: 9, News: []swim.Item{{Node: 1, Info: member.Info{State: api.Dead}}}},
		{Kind: swim.Ping, From: 2, Seq: 10, News: []swim.Item{{Node: 2, Info: member.Info{State: api.Dead, Inc: 3}}}},
	} {
		var want node.Result
		for _, y := range s.Take(m) {
			want.Out = append(want.Out, out(t, y.To, message(y)))
		}
		if i == 0 && (len(want.Out) != 1 || want.Out[0].To != 1) || i == 2 && (len(want.Out) != 1 || want.Out[0].To != 3) {
			t.Fatalf("of %v: %v", m, want)
		}
		comes(t, hears(t, x, m.From, message(m)), want)
		if !slices.Equal(x.Live(), s.Live()) {
			t.Fatalf("Live = %v, want %v", x.Live(), s.Live())
		}
	}
	if !slices.Equal(x.Live(), []int{0, 1, 3}) {
		t.Errorf("Live = %v", x.Live())
	}
}

// TestUpdates: all are merged, and the table is that of what is known; those that are released by it are told, rising.
func TestUpdates(t *testing.T) {
	x := made(t, 0, conf(2))
	want, _ := pool.New(0, 2)
	hear := func(r node.Result, l ...pool.Update) {
		t.Helper()
		comes(t, hears(t, x, 1, updates(l...)), r)
		for _, u := range l {
			want.Merge(u)
		}
		table, _ := want.Table(13)
		if !x.Pool().Same(want) || x.Pool().Clock() != want.Clock() || !slices.Equal(x.Table(), table) {
			t.Fatalf("%s, want %v", state(x), want)
		}
	}
	hear(node.Result{}, known(2, 1, api.Active))
	hear(node.Result{}, known(2, 1, api.Active), known(5, 9, api.Active), known(31, 1, api.Draining))
	hear(node.Result{Gone: []node.Gone{{Backend: 0, Gen: 4}, {Backend: 31, Gen: 1}}}, known(0, 4, api.Released), known(5, 9, api.Draining), known(31, 1, api.Released))
	hear(node.Result{}, known(0, 4, api.Released), known(31, 1, api.Draining)) // they are so already
	hear(node.Result{Gone: []node.Gone{{Backend: 0, Gen: 5}}}, known(0, 5, api.Released))
	hear(node.Result{}, known(0, 6, api.Active), known(5, 8, api.Released), known(31, 1, api.Released)) // of a Gen that is no more known it is not told
	voted := known(2, 1, api.Active)
	voted.Rec.Votes = []life.Vote{{}, {Stamp: 9}}
	voted.Rec.Done = 2
	hear(node.Result{}, voted)
	if len(x.Table()) != 13 || x.Table()[0] != 0 {
		t.Errorf("Table = %v", x.Table())
	}
}

// TestMarks: what whoever has them lacks goes to that one; nothing, if it lacks nothing.
func TestMarks(t *testing.T) {
	x := made(t, 0, conf(3))
	marks := func(l ...pool.Mark) letter.Letter { return letter.Letter{Kind: letter.Marks, Marks: l} }
	comes(t, hears(t, x, 2, marks(pool.Mark{Backend: 2, Sum: 5})), node.Result{})
	all := []pool.Update{known(2, 1, api.Active), known(5, 9, api.Draining), known(31, 1, api.Released)}
	hears(t, x, 1, updates(all...))
	has := x.Pool().Marks()
	comes(t, hears(t, x, 2, marks(has...)), node.Result{})
	comes(t, hears(t, x, 2, marks(has[0], has[2])), node.Result{Out: []node.Out{out(t, 2, updates(all[1]))}})
	wrong := has[1]
	wrong.Sum++
	comes(t, hears(t, x, 1, marks(pool.Mark{Backend: 1}, wrong, has[2])), node.Result{Out: []node.Out{out(t, 1, updates(all[:2]...))}})
	gone(t, x, 2) // who is given up gets them too
	comes(t, hears(t, x, 2, marks(pool.Mark{Backend: 30})), node.Result{Out: []node.Out{out(t, 2, updates(all...))}})
}

// TestAsk: the answer may be used for a while; that there is none is no drop here.
func TestAsk(t *testing.T) {
	c := conf(3)
	c.Flows, c.Mtu = 1, 1
	x := made(t, 0, c)
	tick(x, 9)
	ask := func(from int, id int64, y api.Tuple, flags int, a letter.Answer, grants ...node.Grant) {
		t.Helper()
		a.Id = id
		comes(t, hears(t, x, from, asked(id, y, flags)), node.Result{Out: []node.Out{out(t, from, told(a))}, Grants: grants})
	}
	mine, other := owned(t, 0, 3, 0, 1, 2), owned(t, 1, 1, 0, 1, 2)[0]
	ask(1, 7, tcp(1), api.Syn, letter.Answer{Why: letter.NoOne})
	admin(t, x, add(2, six(0xfd)))
	ask(1, 7, tcp(1), api.Rst, letter.Answer{Why: letter.NoOne})
	yes := func(until int64) letter.Answer {
		return letter.Answer{Backend: 2, Gen: 1, Addr: six(0xfd), Until: until}
	}
	grant := func(from int, y api.Tuple, flags int, until int64, fresh bool) node.Grant {
		return node.Grant{From: from, T: y, Flags: flags, Backend: 2, Gen: 1, Until: until, New: fresh}
	}
	ask(2, ticks, tcp(1), api.Syn, yes(13), grant(2, tcp(1), api.Syn, 13, true))
	ask(1, 1, tcp(1), api.Ack, yes(13), grant(1, tcp(1), api.Ack, 13, false))
	ask(1, 2, mine[0], 0, letter.Answer{Why: letter.NoRoom})
	ask(1, 2, tcp(2), api.Rst, letter.Answer{Why: letter.NoOne})
	tick(x, 5)
	ask(1, 2, tcp(1), api.Rst, yes(18), grant(1, tcp(1), api.Rst, 18, false))
	ask(1, 3, tcp(1), api.Ack, yes(18), grant(1, tcp(1), api.Ack, 18, true)) // a new flow begins
	ask(1, 4, tcp(1), api.Rst, yes(18), grant(1, tcp(1), api.Rst, 18, false))
	ask(2, 5, other, 0, yes(18), grant(2, other, 0, 18, true)) // whoever asks, and whoever should own it
	counted(t, x)
	if x.Waiting() != 0 {
		t.Errorf("%d wait", x.Waiting())
	}
}

// TestTold: what is said of a packet that waits, by the one that was asked.
func TestTold(t *testing.T) {
	a, y := six(0xfd, 7), owned(t, 1, 1, 0, 1, 2)[0]
	b := packet(t, y, 0, 1, 2, 3)
	sent := node.Result{Frames: []node.Frame{frame(t, 0, 9, 4, a, y, b)}}
	yes := letter.Answer{Backend: 9, Gen: 4, Addr: a, Until: 6}
	until := yes
	until.Until = 5
	for _, c := range []struct {
		name string
		a    letter.Answer
		is   []pool.Update
		want node.Result
	}{
		{"yes", yes, nil, sent},
		{"just now", until, nil, sent},
		{"too late", letter.Answer{Backend: 9, Gen: 4, Addr: a, Until: 4}, nil, drops(node.Late)},
		{"of time 0", letter.Answer{Backend: 9, Gen: 4, Addr: a}, nil, drops(node.Late)},
		{"for ever", letter.Answer{Backend: 9, Gen: 4, Addr: a, Until: ticks}, nil, sent},
		{"none", letter.Answer{Why: letter.NoOne}, nil, drops(node.NoBackend)},
		{"no room", letter.Answer{Why: letter.NoRoom}, nil, drops(node.NoRoom)},
		{"it is known, elsewhere", yes, []pool.Update{known(9, 4, api.Active)}, sent},
		{"it is draining", yes, []pool.Update{known(9, 4, api.Draining)}, sent},
		{"it is released", yes, []pool.Update{known(9, 4, api.Released)}, drops(node.Late)},
		{"a lesser Gen is released", yes, []pool.Update{known(9, 3, api.Released)}, sent},
		{"a greater Gen is there", yes, []pool.Update{known(9, 5, api.Active)}, drops(node.Late)},
		{"a greater Gen is released", yes, []pool.Update{known(9, 5, api.Released)}, drops(node.Late)},
		{"another one is released", yes, []pool.Update{known(8, 4, api.Released), known(10, 5, api.Active)}, sent},
	} {
		x := made(t, 0, conf(3))
		tick(x, 5)
		x.Packet(packet(t, owned(t, 2, 1, 0, 1, 2)[0], 0))
		x.Packet(b)
		if len(c.is) > 0 {
			hears(t, x, 2, updates(c.is...))
		}
		answer := func(from int, id int64, want node.Result, waits int) {
			t.Helper()
			c.a.Id = id
			comes(t, hears(t, x, from, told(c.a)), want)
			if x.Waiting() != waits {
				t.Errorf("%s: %d wait, want %d", c.name, x.Waiting(), waits)
			}
		}
		answer(2, 2, node.Result{}, 2) // not the one that was asked
		answer(1, 1, node.Result{}, 2)
		answer(1, 3, node.Result{}, 2)
		answer(1, ticks, node.Result{}, 2)
		answer(1, 2, c.want, 1)
		answer(1, 2, node.Result{}, 1) // of none that waits
		tick(x, 8)
		answer(2, 1, node.Result{}, 0)
		want := make([]uint64, 10)
		want[node.Late] = 1 // the other one that waited
		for _, kind := range c.want.Drops {
			want[kind]++
		}
		counted(t, x, want...)
	}
}

// TestToldTooLong: a frame that does not go into the Mtu is a drop here too.
func TestToldTooLong(t *testing.T) {
	y := owned(t, 1, 1, 0, 1)[0]
	b := packet(t, y, 0, 1, 2, 3)
	c := conf(2)
	c.Mtu = len(frame(t, 0, 9, 4, four(10), y, b).Data)
	for _, a := range []api.Addr{four(10), six(10)} {
		x := made(t, 0, c)
		x.Packet(b)
		want := drops(node.TooLong)
		if !a.V6 {
			want = node.Result{Frames: []node.Frame{frame(t, 0, 9, 4, a, y, b)}}
		}
		comes(t, hears(t, x, 1, told(letter.Answer{Id: 1, Backend: 9, Gen: 4, Addr: a})), want)
		if x.Waiting() != 0 {
			t.Errorf("%d wait", x.Waiting())
		}
	}
}

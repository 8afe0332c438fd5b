package member_test

import (
	"math"
	"math/rand"
	"slices"
	"testing"

	"steelyard/api"
	"steelyard/member"
)

// info: how one is seen.
func info(state int, inc int64) member.Info {
	return member.Info{State: state, Inc: inc}
}

// made: a view.
func made(t testing.TB, me, nodes int) *member.View {
	t.Helper()
	v, e := member.New(me, nodes)
	if v == nil || e != api.OK {
		t.Fatalf("New(%d, %d) = %v, %d", me, nodes, v, e)
	}
	return v
}

// seen: how all are seen, by the calls that ask of one.
func seen(v *member.View) []member.Info {
	l := make([]member.Info, 16)
	for node := range l {
		l[node] = v.Get(node)
	}
	return l
}

// heard fails unless Hear answers so, and that one is seen so then.
func heard(t testing.TB, v *member.View, node int, i member.Info, is bool, then member.Info) {
	t.Helper()
	got, e := v.Hear(node, i)
	if got != is || e != api.OK || v.Get(node) != then {
		t.Fatalf("Hear(%d, %v) = %t, %d, and %v then; want %t, %v", node, i, got, e, v.Get(node), is, then)
	}
}

// noNodes: numbers that no replica of so many has.
func noNodes(nodes int) []int {
	return []int{math.MinInt, -16, -1, nodes, nodes + 1, 16, 17, 255, 1 << 32, 1<<32 + 1, math.MaxInt}
}

// rights, wrongs: some that can be, and some that can't.
func rights() []member.Info {
	var l []member.Info
	for _, inc := range []int64{0, 1, 2, 77, 1 << 32, api.MaxTicks - 1, api.MaxTicks} {
		for state := api.Alive; state <= api.Dead; state++ {
			l = append(l, info(state, inc))
		}
	}
	return l
}

func wrongs() []member.Info {
	var l []member.Info
	for _, state := range []int{math.MinInt, -1, 3, 4, 255, 256, 1 << 32, math.MaxInt} {
		l = append(l, info(state, 0), info(state, 5), info(state, api.MaxTicks))
	}
	for _, inc := range []int64{math.MinInt64, -1, api.MaxTicks + 1, 1 << 48, math.MaxInt64} {
		l = append(l, info(api.Alive, inc), info(api.Suspect, inc), info(api.Dead, inc), info(3, inc))
	}
	return l
}

func TestRight(t *testing.T) {
	for _, i := range rights() {
		if !member.Right(i) {
			t.Errorf("%v can't be", i)
		}
	}
	for _, i := range wrongs() {
		if member.Right(i) {
			t.Errorf("%v can be", i)
		}
	}
}

// TestNewer is P14.5, too: these stand in one order.
func TestNewer(t *testing.T) {
	l := rights()
	for i, a := range l {
		for j, b := range l {
			if member.Newer(a, b) != (i > j) {
				t.Errorf("Newer(%v, %v) = %t", a, b, member.Newer(a, b))
			}
		}
	}
	all := append(wrongs(), l...)
	for _, a := range all { // whether they can be or not
		for _, b := range all {
			if n := count(member.Newer(a, b), member.Newer(b, a), a == b); n != 1 {
				t.Errorf("of %v and %v %d hold", a, b, n)
			}
			for _, c := range all {
				if member.Newer(a, b) && member.Newer(b, c) && !member.Newer(a, c) {
					t.Errorf("%v, %v, %v have no order", a, b, c)
				}
			}
		}
	}
}

// count: how many hold.
func count(l ...bool) int {
	n := 0
	for _, is := range l {
		if is {
			n++
		}
	}
	return n
}

func TestNew(t *testing.T) {
	for nodes := 1; nodes <= 16; nodes++ {
		for me := range nodes {
			v := made(t, me, nodes)
			if l := v.Live(); len(l) != nodes || l[0] != 0 || l[nodes-1] != nodes-1 {
				t.Errorf("New(%d, %d) sees %v", me, nodes, l)
			}
			if l := seen(v); !slices.Equal(l, make([]member.Info, 16)) {
				t.Errorf("New(%d, %d) sees %v", me, nodes, l)
			}
		}
	}
	for _, c := range [][2]int{
		{0, 0}, {0, -1}, {0, 17}, {0, math.MinInt}, {0, math.MaxInt}, {-1, 0}, {16, 17}, {16, 16}, {17, 16}, {1, 1}, {3, 3}, {4, 3},
		{-1, 1}, {-1, 16}, {math.MinInt, 3}, {math.MaxInt, 3}, {1 << 32, 3}, {0, 1 << 32}, {0, 1<<32 + 1},
	} {
		if v, e := member.New(c[0], c[1]); v != nil || e != api.ErrArg {
			t.Errorf("New(%d, %d) = %v, %d", c[0], c[1], v, e)
		}
	}
}

// ofNone fails unless each call that has an error answers that one alone.
func ofNone(t *testing.T, v *member.View, want api.Errno) {
	t.Helper()
	for _, node := range append(noNodes(3), 0, 1) {
		for _, i := range []member.Info{info(api.Dead, 5), info(3, 0)} {
			if is, e := v.Hear(node, i); is || e != want {
				t.Errorf("Hear(%d, %v) = %t, %d", node, i, is, e)
			}
		}
		if i, e := v.Doubt(node); i != info(0, 0) || e != want {
			t.Errorf("Doubt(%d) = %v, %d", node, i, e)
		}
		if i, e := v.Bury(node); i != info(0, 0) || e != want {
			t.Errorf("Bury(%d) = %v, %d", node, i, e)
		}
		if i := v.Get(node); i != info(0, 0) {
			t.Errorf("Get(%d) = %v", node, i)
		}
	}
	if l := v.Live(); len(l) != 0 {
		t.Errorf("Live = %v", l)
	}
}

// TestOfNil: ErrNil goes ahead of all other errors.
func TestOfNil(t *testing.T) {
	var v *member.View
	ofNone(t, v, api.ErrNil)
	w := made(t, 0, 1)
	if !v.Same(nil) || v.Same(w) || w.Same(nil) || !w.Same(w) || v.Copy() != nil || len(v.Bytes()) != 0 {
		t.Error("nil is something")
	}
}

// TestOfNoNew: one that New did not make sees nobody, and panics at nothing.
func TestOfNoNew(t *testing.T) {
	v := new(member.View)
	ofNone(t, v, api.ErrArg)
	if !v.Same(v.Copy()) || v.Same(made(t, 0, 1)) {
		t.Error("it sees somebody")
	}
}

// TestExample is the document's.
func TestExample(t *testing.T) {
	v := made(t, 0, 3)
	heard(t, v, 0, info(api.Suspect, 0), true, info(api.Alive, 1))
	heard(t, v, 1, info(api.Dead, 0), true, info(api.Dead, 0))
	heard(t, v, 1, info(api.Alive, 1), true, info(api.Alive, 1))
}

// TestHearOfOthers: each one behind each one.
func TestHearOfOthers(t *testing.T) {
	l := rights()
	for i, was := range l {
		for j, then := range l {
			v := made(t, 1, 3)
			heard(t, v, 2, was, i > 0, was)
			heard(t, v, 2, then, j > i, l[max(i, j)])
			if v.Get(0) != info(0, 0) || v.Get(1) != info(0, 0) {
				t.Errorf("others: %v", seen(v))
			}
		}
	}
}

// TestHearOfMe: mine is Alive of some Inc, and then somebody says something.
func TestHearOfMe(t *testing.T) {
	const top = api.MaxTicks
	for _, c := range []struct {
		was  int64
		i    member.Info
		is   bool
		then int64
	}{
		{0, info(api.Alive, 0), false, 0},
		{0, info(api.Alive, 1), true, 1},
		{0, info(api.Suspect, 0), true, 1},
		{0, info(api.Dead, 0), true, 1},
		{0, info(api.Suspect, 9), true, 10},
		{5, info(api.Alive, 4), false, 5},
		{5, info(api.Alive, 5), false, 5},
		{5, info(api.Alive, 6), true, 6},
		{5, info(api.Alive, top), true, top},
		{5, info(api.Suspect, 4), false, 5},
		{5, info(api.Dead, 4), false, 5},
		{5, info(api.Dead, 0), false, 5},
		{5, info(api.Suspect, 5), true, 6},
		{5, info(api.Dead, 5), true, 6},
		{5, info(api.Dead, 6), true, 7},
		{5, info(api.Dead, top-1), true, top},
		{5, info(api.Suspect, top), false, top}, // mine grows, though that is not told
		{5, info(api.Dead, top), false, top},
		{top - 1, info(api.Suspect, top-2), false, top - 1},
		{top - 1, info(api.Suspect, top-1), true, top},
		{top - 1, info(api.Dead, top), false, top},
		{top - 1, info(api.Alive, top), true, top},
		{top, info(api.Alive, top), false, top},
		{top, info(api.Alive, 0), false, top},
		{top, info(api.Suspect, top-1), false, top},
		{top, info(api.Suspect, top), false, top},
		{top, info(api.Dead, top), false, top},
	} {
		for me := range 3 {
			v := made(t, me, 3)
			heard(t, v, me, info(api.Alive, c.was), c.was > 0, info(api.Alive, c.was))
			heard(t, v, me, c.i, c.is, info(api.Alive, c.then))
			if l := v.Live(); len(l) != 3 {
				t.Errorf("Live = %v", l)
			}
		}
	}
}

// same fails unless all are seen as they were.
func same(t *testing.T, v *member.View, was []member.Info) {
	t.Helper()
	if l := seen(v); !slices.Equal(l, was) {
		t.Errorf("%v has become %v", was, l)
	}
}

func TestHearOfWhatCanNotBe(t *testing.T) {
	v := made(t, 1, 3)
	heard(t, v, 0, info(api.Suspect, 4), true, info(api.Suspect, 4))
	was := seen(v)
	refused := func(node int, i member.Info) {
		t.Helper()
		if is, e := v.Hear(node, i); is || e != api.ErrArg {
			t.Errorf("Hear(%d, %v) = %t, %d", node, i, is, e)
		}
		same(t, v, was)
	}
	for node := range 3 {
		for _, i := range wrongs() {
			refused(node, i)
		}
	}
	for _, node := range noNodes(3) {
		for _, i := range append(rights(), wrongs()...) {
			refused(node, i)
		}
	}
}

// TestDoubtAndBury: of each state.
func TestDoubtAndBury(t *testing.T) {
	for _, inc := range []int64{0, 5, api.MaxTicks} {
		for was := api.Alive; was <= api.Dead; was++ {
			for _, c := range []struct {
				name string
				call func(v *member.View, node int) (member.Info, api.Errno)
				from int // the greatest state from which it goes
				to   int
			}{
				{"Doubt", (*member.View).Doubt, api.Alive, api.Suspect},
				{"Bury", (*member.View).Bury, api.Suspect, api.Dead},
			} {
				v := made(t, 2, 3)
				heard(t, v, 1, info(was, inc), was > 0 || inc > 0, info(was, inc))
				i, e := c.call(v, 1)
				if was <= c.from {
					if i != info(c.to, inc) || e != api.OK || v.Get(1) != i {
						t.Errorf("%s of %d, %d = %v, %d; then %v", c.name, was, inc, i, e, v.Get(1))
					}
				} else if i != info(0, 0) || e != api.ErrState || v.Get(1) != info(was, inc) {
					t.Errorf("%s of %d, %d = %v, %d; then %v", c.name, was, inc, i, e, v.Get(1))
				}
				now := seen(v)
				for _, node := range append(noNodes(3), 2) {
					if i, e := c.call(v, node); i != info(0, 0) || e != api.ErrArg {
						t.Errorf("%s(%d) = %v, %d", c.name, node, i, e)
					}
				}
				same(t, v, now)
			}
		}
	}
}

func TestGet(t *testing.T) {
	v := made(t, 0, 2)
	heard(t, v, 1, info(api.Dead, 3), true, info(api.Dead, 3))
	for _, node := range append(noNodes(2), 0) {
		if i := v.Get(node); i != info(0, 0) {
			t.Errorf("Get(%d) = %v", node, i)
		}
	}
}

func TestLive(t *testing.T) {
	v := made(t, 3, 5)
	for _, c := range []struct {
		node, state int
		want        []int
	}{
		{4, api.Suspect, []int{0, 1, 2, 3, 4}},
		{4, api.Dead, []int{0, 1, 2, 3}},
		{0, api.Dead, []int{1, 2, 3}},
		{3, api.Dead, []int{1, 2, 3}}, // me is there always
		{2, api.Dead, []int{1, 3}},
		{1, api.Dead, []int{3}},
		{0, api.Alive, []int{3}},
	} {
		if _, e := v.Hear(c.node, info(c.state, 0)); e != api.OK {
			t.Fatalf("Hear(%d): %d", c.node, e)
		}
		if l := v.Live(); !slices.Equal(l, c.want) {
			t.Errorf("Live = %v, want %v", l, c.want)
		}
	}
	heard(t, v, 2, info(api.Alive, 1), true, info(api.Alive, 1))
	l := v.Live()
	clear(l)
	if l := v.Live(); !slices.Equal(l, []int{2, 3}) {
		t.Errorf("Live = %v", l)
	}
}

func TestSame(t *testing.T) {
	l := []*member.View{made(t, 0, 2), made(t, 0, 3)}
	for node := 1; node < 3; node++ {
		for _, i := range rights()[1:] {
			v := made(t, 0, 3)
			heard(t, v, node, i, true, i)
			l = append(l, v)
		}
	}
	for i, v := range l {
		for j, w := range l {
			if v.Same(w) != (i == j) {
				t.Errorf("%v and %v: Same = %t", seen(v), seen(w), v.Same(w))
			}
		}
	}
	if !made(t, 0, 3).Same(made(t, 2, 3)) {
		t.Error("who sees plays a part")
	}
}

// TestCopy: another one goes on as the first one would, and neither changes the other one.
func TestCopy(t *testing.T) {
	v := made(t, 1, 3)
	heard(t, v, 0, info(api.Suspect, 7), true, info(api.Suspect, 7))
	was := seen(v)
	w := v.Copy()
	if !v.Same(w) || !slices.Equal(seen(w), was) {
		t.Fatalf("%v, of %v", seen(w), was)
	}
	heard(t, w, 1, info(api.Dead, 3), true, info(api.Alive, 4))
	if i, e := w.Bury(0); i != info(api.Dead, 7) || e != api.OK {
		t.Errorf("Bury = %v, %d", i, e)
	}
	same(t, v, was)
	was = seen(w)
	heard(t, v, 2, info(api.Dead, 9), true, info(api.Dead, 9))
	same(t, w, was)
}

// TestAnyOrder is P14.6 and P14.7: what others say in whatever order, each thing once or more; the newest one stays, of me one that is newer.
func TestAnyOrder(t *testing.T) {
	rnd := rand.New(rand.NewSource(1))
	for range 3000 {
		nodes := 1 + rnd.Intn(16)
		me := rnd.Intn(nodes)
		v := made(t, me, nodes)
		newest := make([]member.Info, nodes)
		for range 60 {
			node, i := rnd.Intn(nodes), info(rnd.Intn(3), int64(rnd.Intn(5)))
			if rnd.Intn(20) == 0 {
				i.Inc = api.MaxTicks - int64(rnd.Intn(3))
			}
			was := v.Get(node)
			is, e := v.Hear(node, i)
			now := v.Get(node)
			if e != api.OK || is != (now != was) && now.Inc < api.MaxTicks || member.Newer(was, now) {
				t.Fatalf("Hear(%d, %v) = %t, %d: %v becomes %v", node, i, is, e, was, now)
			}
			if member.Newer(i, newest[node]) {
				newest[node] = i
			}
			if node != me && now != newest[node] {
				t.Fatalf("the newest of %d is %v, not %v", node, newest[node], now)
			}
			if mine := v.Get(me); mine.State != api.Alive || mine.Inc < api.MaxTicks && newest[me].State != api.Alive && !member.Newer(mine, newest[me]) {
				t.Fatalf("mine is %v behind %v", mine, newest[me])
			}
		}
	}
}

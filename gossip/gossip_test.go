package gossip_test

import (
	"bytes"
	"math"
	"slices"
	"testing"

	"steelyard/api"
	"steelyard/gossip"
)

// made: a queue.
func made(t testing.TB, most int) *gossip.Queue {
	t.Helper()
	q, e := gossip.New(most)
	if q == nil || e != api.OK {
		t.Fatalf("New(%d) = %v, %d", most, q, e)
	}
	return q
}

// put fails unless Put takes it.
func put(t testing.TB, q *gossip.Queue, key int, data string, times int) {
	t.Helper()
	if e := q.Put(key, []byte(data), times); e != api.OK || q.Left(key) != times {
		t.Fatalf("Put(%d, %q, %d): %d, %d are left", key, data, times, e, q.Left(key))
	}
}

// news: some under a key.
func news(key int, data string) gossip.News {
	return gossip.News{Key: key, Data: []byte(data)}
}

// alike: are these the same news?
func alike(a, b []gossip.News) bool {
	return slices.EqualFunc(a, b, func(x, y gossip.News) bool { return x.Key == y.Key && bytes.Equal(x.Data, y.Data) })
}

// picked fails unless Pick answers these.
func picked(t testing.TB, q *gossip.Queue, room int, want ...gossip.News) {
	t.Helper()
	if l := q.Pick(room); !alike(l, want) {
		t.Fatalf("Pick(%d) = %v, want %v", room, l, want)
	}
}

// left fails unless these wait so often, and no others.
func left(t testing.TB, q *gossip.Queue, want map[int]int) {
	t.Helper()
	for key, n := range want {
		if q.Left(key) != n {
			t.Fatalf("Left(%d) = %d, want %d", key, q.Left(key), n)
		}
	}
	if q.Len() != len(want) {
		t.Fatalf("Len = %d, want %d", q.Len(), len(want))
	}
}

func TestNew(t *testing.T) {
	for _, most := range []int{1, 2, 16, 1000, 4095, 4096} {
		q := made(t, most)
		left(t, q, nil)
		picked(t, q, math.MaxInt)
	}
	for _, most := range []int{math.MinInt, -4096, -1, 0, 4097, 65535, 1 << 32, 1<<32 + 1, math.MaxInt} {
		if q, e := gossip.New(most); q != nil || e != api.ErrArg {
			t.Errorf("New(%d) = %v, %d", most, q, e)
		}
	}
}

// TestExample is the document's.
func TestExample(t *testing.T) {
	q := made(t, 9)
	put(t, q, 1, "ab", 2)
	put(t, q, 2, "c", 3)
	picked(t, q, 3, news(2, "c"), news(1, "ab"))
	picked(t, q, 1, news(2, "c"))
	if gossip.Times(3) != 6 || gossip.Times(4) != 9 {
		t.Errorf("Times = %d, %d", gossip.Times(3), gossip.Times(4))
	}
	left(t, q, map[int]int{1: 1, 2: 1})
}

// wrongTimes: how often nothing may be told.
func wrongTimes() []int {
	return []int{math.MinInt, -1000, -1, 0, 1001, 4096, 1 << 32, 1<<32 + 1, math.MaxInt}
}

// TestOfNil: ErrNil goes ahead of all other errors.
func TestOfNil(t *testing.T) {
	var q *gossip.Queue
	for _, times := range append(wrongTimes(), 1, 1000) {
		for _, data := range [][]byte{nil, {}, []byte("ab")} {
			if e := q.Put(1, data, times); e != api.ErrNil {
				t.Errorf("Put(1, %q, %d): %d", data, times, e)
			}
		}
	}
	left(t, q, map[int]int{})
	if q.Left(1) != 0 {
		t.Errorf("Left = %d", q.Left(1))
	}
	picked(t, q, math.MaxInt)
}

// TestOfNoNew: one that New did not make has no room, and panics at nothing.
func TestOfNoNew(t *testing.T) {
	q := new(gossip.Queue)
	if e := q.Put(1, []byte("ab"), 2); e != api.ErrFull {
		t.Errorf("Put: %d", e)
	}
	if e := q.Put(1, nil, 2); e != api.ErrArg {
		t.Errorf("Put: %d", e)
	}
	left(t, q, map[int]int{})
	picked(t, q, math.MaxInt)
}

// TestPutOfWrong: what can't be is refused ahead of ErrFull, and changes nothing.
func TestPutOfWrong(t *testing.T) {
	q := made(t, 2)
	put(t, q, 1, "ab", 2)
	refused := func(key int, data []byte, times int, want api.Errno) {
		t.Helper()
		if e := q.Put(key, data, times); e != want {
			t.Errorf("Put(%d, %q, %d): %d, want %d", key, data, times, e, want)
		}
	}
	for range 2 { // the second time it is full
		for _, key := range []int{1, 7} {
			for _, times := range append(wrongTimes(), 1, 1000) {
				refused(key, nil, times, api.ErrArg)
				refused(key, []byte{}, times, api.ErrArg)
			}
			for _, times := range wrongTimes() {
				refused(key, []byte("x"), times, api.ErrArg)
			}
		}
		if q.Left(1) != 2 || q.Left(7) != 0 {
			t.Errorf("%d, %d are left", q.Left(1), q.Left(7))
		}
		if q.Len() == 1 {
			put(t, q, 2, "c", 1)
		}
	}
	refused(7, []byte("x"), 1, api.ErrFull)
	left(t, q, map[int]int{1: 2, 2: 1})
	picked(t, q, 9, news(1, "ab"), news(2, "c"))
	picked(t, q, 9, news(1, "ab"))
	picked(t, q, 9)
}

// TestPutOfTimes: from once to a thousand times.
func TestPutOfTimes(t *testing.T) {
	for _, times := range []int{1, 2, 999, 1000} {
		q := made(t, 1)
		put(t, q, -5, "x", times)
		for n := times; n > 0; n-- {
			left(t, q, map[int]int{-5: n})
			picked(t, q, 1, news(-5, "x"))
		}
		left(t, q, map[int]int{})
		picked(t, q, 1)
	}
}

// TestFull: there is room for so many keys, and again for one when one is gone.
func TestFull(t *testing.T) {
	for _, most := range []int{1, 2, 16, 4096} {
		q := made(t, most)
		for i := range most {
			put(t, q, -i, "x", 2)
		}
		if e := q.Put(1, []byte("x"), 2); e != api.ErrFull {
			t.Errorf("Put of one more than %d: %d", most, e)
		}
		if q.Len() != most || q.Left(1) != 0 {
			t.Errorf("Len = %d, Left = %d", q.Len(), q.Left(1))
		}
		put(t, q, 0, "yz", 1) // in place of what stands there
		if l := q.Pick(math.MaxInt); len(l) != most || q.Len() != most-1 || q.Left(0) != 0 {
			t.Errorf("Pick = %d; %d stand", len(l), q.Len())
		}
		put(t, q, 1, "x", 1)
		if e := q.Put(0, []byte("x"), 2); e != api.ErrFull {
			t.Errorf("Put of one more than %d: %d", most, e)
		}
	}
}

// TestPutAgain: what stood there is gone, both the bytes and how often, be that more or less.
func TestPutAgain(t *testing.T) {
	for _, was := range []int{1, 2, 5, 1000} {
		for _, is := range []int{1, 2, 5, 1000} {
			q := made(t, 2)
			put(t, q, 3, "was", was)
			put(t, q, 4, "else", 3)
			put(t, q, 3, "is", is)
			left(t, q, map[int]int{3: is, 4: 3})
			picked(t, q, 2, news(3, "is"))
		}
	}
	q := made(t, 1)
	put(t, q, 3, "x", 2)
	picked(t, q, 1, news(3, "x"))
	put(t, q, 3, "x", 2) // the same once more
	left(t, q, map[int]int{3: 2})
}

// TestOrder: the greatest number first, of the same the lesser key, in whatever order they were put.
func TestOrder(t *testing.T) {
	want := []struct{ key, times int }{
		{9, 1000}, {-1, 7}, {8, 7}, {math.MinInt, 2}, {-7, 2}, {-2, 2}, {0, 2}, {2, 2}, {10, 2}, {math.MaxInt, 2}, {-9, 1}, {1, 1}, {1 << 40, 1},
	}
	for turned := range 13 {
		q := made(t, 13)
		var l []gossip.News
		for i := range want {
			w := want[(i*5+turned)%13]
			put(t, q, w.key, "x", w.times)
			l = append(l, news(want[i].key, "x"))
		}
		picked(t, q, 13, l...)
		picked(t, q, 4, l[:4]...)
		picked(t, q, 13, slices.Concat(l[:3], l[4:10])...)
		picked(t, q, 13, l[:3]...)
		left(t, q, map[int]int{9: 996, -1: 3, 8: 3})
	}
}

// TestOrderChanges: who was told stands behind those that were not.
func TestOrderChanges(t *testing.T) {
	q := made(t, 3)
	put(t, q, 1, "a", 3)
	put(t, q, 2, "b", 3)
	put(t, q, 3, "c", 2)
	for _, want := range []gossip.News{news(1, "a"), news(2, "b"), news(1, "a"), news(2, "b"), news(3, "c"), news(1, "a"), news(2, "b"), news(3, "c")} {
		picked(t, q, 1, want)
	}
	picked(t, q, 1)
}

// TestRoom: what does not go in is passed over, what comes behind it may go in, and each is told once a time.
func TestRoom(t *testing.T) {
	fill := func() *gossip.Queue {
		q := made(t, 4)
		put(t, q, 1, "12345", 4)
		put(t, q, 2, "123", 3)
		put(t, q, 3, "1234", 2)
		put(t, q, 4, "1", 1)
		return q
	}
	one, two, three, four := news(1, "12345"), news(2, "123"), news(3, "1234"), news(4, "1")
	for _, c := range []struct {
		room int
		want []gossip.News
	}{
		{math.MinInt, nil}, {-1, nil}, {0, nil}, {1, []gossip.News{four}}, {2, []gossip.News{four}}, {3, []gossip.News{two}},
		{4, []gossip.News{two, four}}, {5, []gossip.News{one}}, {6, []gossip.News{one, four}}, {7, []gossip.News{one, four}},
		{8, []gossip.News{one, two}}, {9, []gossip.News{one, two, four}}, {11, []gossip.News{one, two, four}}, {12, []gossip.News{one, two, three}},
		{13, []gossip.News{one, two, three, four}}, {1000, []gossip.News{one, two, three, four}}, {math.MaxInt, []gossip.News{one, two, three, four}},
	} {
		q := fill()
		picked(t, q, c.room, c.want...)
		then := map[int]int{1: 4, 2: 3, 3: 2, 4: 1}
		for _, n := range c.want {
			then[n.Key]--
		}
		if then[4] == 0 {
			delete(then, 4)
		}
		left(t, q, then)
	}
}

// TestMemory: neither what was put nor what was picked is kept by those who have it.
func TestMemory(t *testing.T) {
	q := made(t, 2)
	data := []byte("abc")
	if e := q.Put(1, data, 3); e != api.OK {
		t.Fatalf("Put: %d", e)
	}
	put(t, q, 2, "xyz", 3)
	copy(data, "zzz")
	for range 3 {
		l := q.Pick(6)
		if !alike(l, []gossip.News{news(1, "abc"), news(2, "xyz")}) {
			t.Fatalf("Pick = %v", l)
		}
		clear(l[0].Data)
		if got := append(l[0].Data, "more"...); !bytes.Equal(l[1].Data, []byte("xyz")) {
			t.Errorf("%q writes into %q", got, l[1].Data)
		}
		clear(l[1].Data[:cap(l[1].Data)])
	}
}

// TestLongData: bytes of any length are told as they are.
func TestLongData(t *testing.T) {
	long := bytes.Repeat([]byte{0, 255, 7}, 100000)
	q := made(t, 1)
	if e := q.Put(0, long, 2); e != api.OK {
		t.Fatalf("Put: %d", e)
	}
	picked(t, q, len(long)-1)
	picked(t, q, len(long), gossip.News{Data: long})
	left(t, q, map[int]int{0: 1})
}

func TestTimes(t *testing.T) {
	for nodes := -20; nodes <= 5000; nodes++ {
		k := 0
		for 1<<k <= max(nodes, 1) {
			k++
		}
		if n := gossip.Times(nodes); n != 3*k {
			t.Errorf("Times(%d) = %d, want %d", nodes, n, 3*k)
		}
	}
	for _, c := range [][2]int{
		{math.MinInt, 3}, {math.MinInt32, 3}, {-1, 3}, {0, 3}, {1, 3}, {2, 6}, {3, 6}, {4, 9}, {7, 9}, {8, 12}, {15, 12}, {16, 15},
		{1<<32 - 1, 96}, {1 << 32, 99}, {1 << 62, 189}, {math.MaxInt, 189},
	} {
		if n := gossip.Times(c[0]); n != c[1] {
			t.Errorf("Times(%d) = %d, want %d", c[0], n, c[1])
		}
	}
}

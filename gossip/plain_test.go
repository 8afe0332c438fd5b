package gossip_test

import (
	"bytes"
	"math/rand"
	"testing"

	"steelyard/api"
	"steelyard/gossip"
)

// row is what stands under a key.
type row struct {
	gossip.News
	times int
}

// plain is a queue by the document's words: a list without an order, gone through again for each that is told.
type plain struct {
	most int
	rows []row
}

func (p *plain) at(key int) int {
	for i, r := range p.rows {
		if r.Key == key {
			return i
		}
	}
	return -1
}

func (p *plain) put(key int, data []byte, times int) api.Errno {
	if times < 1 || times > 1000 || len(data) < 1 {
		return api.ErrArg
	}
	i := p.at(key)
	if i < 0 {
		if len(p.rows) == p.most {
			return api.ErrFull
		}
		i = len(p.rows)
		p.rows = append(p.rows, row{})
	}
	p.rows[i] = row{gossip.News{Key: key, Data: bytes.Clone(data)}, times}
	return api.OK
}

// ahead: does one stand ahead of another one in the order?
func ahead(a, b row) bool {
	if a.times != b.times {
		return a.times > b.times
	}
	return a.Key < b.Key
}

func (p *plain) pick(room int) []gossip.News {
	asked := map[int]bool{}
	was := append([]row(nil), p.rows...)
	var l []gossip.News
	for len(asked) < len(was) {
		first := -1
		for i, r := range was {
			if !asked[i] && (first < 0 || ahead(r, was[first])) {
				first = i
			}
		}
		asked[first] = true
		if r := was[first]; len(r.Data) <= room {
			room -= len(r.Data)
			l = append(l, r.News)
			i := p.at(r.Key)
			if p.rows[i].times--; p.rows[i].times == 0 {
				p.rows = append(p.rows[:i], p.rows[i+1:]...)
			}
		}
	}
	return l
}

// both is a queue and a plain one, of which the same is asked.
type both struct {
	q *gossip.Queue
	p *plain
}

func pair(t testing.TB, most int) both {
	return both{made(t, most), &plain{most: most}}
}

// does asks one thing of both by three numbers, and fails unless they answer alike and stand alike then.
func (b both) does(t testing.TB, op, x, y int) {
	t.Helper()
	if op%3 == 0 {
		room := x%40 - 2
		if l, want := b.q.Pick(room), b.p.pick(room); !alike(l, want) {
			t.Fatalf("Pick(%d) = %v, want %v", room, l, want)
		}
	} else {
		key, data, times := x%16-3, bytes.Repeat([]byte{byte(x)}, y%7), y%9
		if e, want := b.q.Put(key, data, times), b.p.put(key, data, times); e != want {
			t.Fatalf("Put(%d, %v, %d): %d, want %d", key, data, times, e, want)
		}
	}
	want := map[int]int{}
	for _, r := range b.p.rows {
		want[r.Key] = r.times
	}
	for key := -4; key < 14; key++ {
		if b.q.Left(key) != want[key] {
			t.Fatalf("Left(%d) = %d, want %d", key, b.q.Left(key), want[key])
		}
	}
	left(t, b.q, want)
}

// TestByChance holds queues against plain ones, step by step.
func TestByChance(t *testing.T) {
	rnd := rand.New(rand.NewSource(1))
	for range 300 {
		b := pair(t, 1+rnd.Intn(16))
		for range 200 {
			b.does(t, rnd.Intn(6)/2, rnd.Intn(256), rnd.Intn(256))
		}
	}
}

// TestTold is P15.4: each news is told as often as was said, where there is room; never more, and none ahead of Put.
func TestTold(t *testing.T) {
	rnd := rand.New(rand.NewSource(2))
	for range 300 {
		many := 1 + rnd.Intn(20)
		q := made(t, many)
		times, sizes, told := make([]int, many), make([]int, many), make([]int, many)
		all := 0
		for key := range many {
			times[key], sizes[key] = 1+rnd.Intn(12), 1+rnd.Intn(9)
			all += sizes[key]
			put(t, q, key, string(make([]byte, sizes[key])), times[key])
		}
		tell := func(room int) {
			for _, n := range q.Pick(room) {
				room -= len(n.Data)
				if told[n.Key]++; room < 0 || told[n.Key] > times[n.Key] || len(n.Data) != sizes[n.Key] {
					t.Fatalf("%d is told %d times of %d; %d bytes are left", n.Key, told[n.Key], times[n.Key], room)
				}
			}
			for key := range many {
				if q.Left(key) != times[key]-told[key] {
					t.Fatalf("Left(%d) = %d; told %d times of %d", key, q.Left(key), told[key], times[key])
				}
			}
		}
		for range rnd.Intn(40) {
			tell(rnd.Intn(all + 3))
		}
		for range 12 {
			tell(all)
		}
		left(t, q, map[int]int{})
	}
}

// FuzzQueue: whatever is asked, it is answered as by the plain one.
func FuzzQueue(f *testing.F) {
	f.Add([]byte{1, 5, 10, 1, 6, 12, 0, 5, 0, 0, 40, 0}, 2)
	f.Add([]byte{1, 5, 13, 1, 5, 22, 2, 9, 10, 0, 3, 0, 0, 255, 0, 0, 255, 0}, 1)
	f.Fuzz(func(t *testing.T, script []byte, most int) {
		q, e := gossip.New(most)
		if (e == api.OK) != (most >= 1 && most <= 4096) || (q == nil) != (e != api.OK) {
			t.Fatalf("New(%d) = %v, %d", most, q, e)
		}
		if e != api.OK {
			return
		}
		b := both{q, &plain{most: most}}
		for i := 0; i+2 < min(len(script), 600); i += 3 {
			b.does(t, int(script[i]), int(script[i+1]), int(script[i+2]))
		}
	})
}

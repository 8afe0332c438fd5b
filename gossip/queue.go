package gossip

import (
	"cmp"
	"maps"
	"slices"
)

// queue is news under keys of any type that has an order.
type queue[K cmp.Ordered] struct {
	most int
	news map[K]wait
}

// wait is news that wait to be told so many times.
type wait struct {
	data  []byte
	times int
}

// empty: none, for at most so many.
func empty[K cmp.Ordered](most int) queue[K] {
	return queue[K]{most: most, news: map[K]wait{}}
}

// put: news in place of what was there under that key; is there room for them?
func (q *queue[K]) put(key K, data []byte, times int) bool {
	if _, ok := q.news[key]; !ok && len(q.news) >= q.most {
		return false
	}
	q.news[key] = wait{data: slices.Clone(data), times: times}
	return true
}

// pick tells, in order, what goes into the room that is left.
func (q *queue[K]) pick(room int, tell func(key K, data []byte)) {
	for _, key := range slices.SortedFunc(maps.Keys(q.news), q.order()) {
		data := q.news[key].data
		if len(data) > room {
			continue
		}
		room -= len(data)
		tell(key, data)
		q.told(key)
	}
}

// order: which of two keys stands first: what is to be told more often, then the lesser one.
func (q *queue[K]) order() func(a, b K) int {
	return func(a, b K) int {
		return cmp.Or(cmp.Compare(q.left(b), q.left(a)), cmp.Compare(a, b))
	}
}

// told: what stands under a key is to be told once less.
func (q *queue[K]) told(key K) {
	w := q.news[key]
	w.times--
	if w.times == 0 {
		delete(q.news, key)
		return
	}
	q.news[key] = w
}

// left: how many times more what stands under a key is told.
func (q *queue[K]) left(key K) int {
	return q.news[key].times
}

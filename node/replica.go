package node

import (
	"steelyard/api"
	"steelyard/hash"
	"steelyard/owner"
	"steelyard/pool"
	"steelyard/store"
	"steelyard/swim"
	"steelyard/tuple"
	"steelyard/wheel"
)

// mostCount is the most that is counted of a kind of drops.
const mostCount = 1<<32 - 1

// replica is one, of its parts.
type replica struct {
	Conf
	*swim.Swim
	*pool.Pool
	*store.Store
	*wheel.Wheel // till when packets wait, by their numbers
	*tuple.Counts

	me      int
	now     int64
	table   []int
	last    int64 // the last number that a packet waited under
	waiting map[int64]held
}

// held is a packet that waits for what its owner says.
type held struct {
	owner int
	t     api.Tuple
	b     []byte
}

// newReplica: one that knows nothing, of a conf that can be.
func newReplica(me int, c Conf) replica {
	x := replica{Conf: c, Counts: tuple.New(mostCount), me: me, waiting: map[int64]held{}}
	x.Swim, _ = swim.New(me, c.Nodes)
	x.Pool, _ = pool.New(me, c.Nodes)
	x.Store, _ = store.New(c.Flows)
	x.Wheel, _ = wheel.New(x.now)
	return x
}

// owner: whose a tuple is, which can be.
func (x *replica) owner(t api.Tuple) int {
	h, _ := hash.Flow(t)
	i, _ := owner.Of(x.Live(), h) // there is one, as me is never given up
	return i
}

// other: is there such a replica, and is it not me?
func (x *replica) other(node int) bool {
	return within(0, node, x.Nodes-1) && node != x.me
}

// others: those that are not given up, rising.
func (x *replica) others() []int {
	var l []int
	for _, node := range x.Live() {
		if node != x.me {
			l = append(l, node)
		}
	}
	return l
}

// renew: the table is that of what is known now; none, if no backend takes flows.
func (x *replica) renew() {
	x.table, _ = x.Table(x.Slots)
}

// released: of each backend the Gen of which it is released; 0, if it is not.
func (x *replica) released() [api.MaxBackends]int64 {
	var gens [api.MaxBackends]int64
	for backend, r := range x.All() {
		if r.Life == api.Released {
			gens[backend] = r.Gen
		}
	}
	return gens
}

package maglev

import (
	"slices"

	"steelyard/api"
	"steelyard/hash"
)

// The seeds by which an entry's number says where its order begins, and its step.
const (
	seedBegin = 1
	seedStep  = 2
)

// order is the slots as an entry wants them; of fewer than MaxSlots what is left is 0.
type order [api.MaxSlots]int

// Order: in which order an entry wants the slots.
func Order(id, slots int) ([]int, api.Errno) {
	if !rightSlots(slots) || !rightId(id) {
		return nil, api.ErrArg
	}
	o := orderOf(id, slots)
	return slices.Clone(o[:slots]), api.OK
}

// orderOf: the order of an entry that can be, of slots that can be.
func orderOf(id, slots int) order {
	var o order
	at := rest(hash.Pair(seedBegin, 0, uint64(id)), slots)
	step := 1 + rest(hash.Pair(seedStep, 0, uint64(id)), slots-1)
	for i := range slots {
		o[i] = at
		at = (at + step) % slots
	}
	return o
}

// rightSlots: can there be so many?
func rightSlots(slots int) bool {
	return slots <= api.MaxSlots && Prime(slots)
}

// rightId: can it be an entry's?
func rightId(id int) bool {
	return id >= 0 && id < api.MaxBackends
}

// rest: what is left of h by n.
func rest(h uint64, n int) int {
	return int(h % uint64(n))
}

package tuple

import (
	"math"

	"steelyard/api"
)

// Kinds is how many kinds of things are counted.
const Kinds = 12

// Counts is how often things were, by their kinds; no number goes round.
type Counts struct {
	most    uint64
	numbers [Kinds]uint64
}

// New: none, up to a most.
func New(most uint64) *Counts {
	return &Counts{most: most}
}

// Add: some more of a kind.
func (c *Counts) Add(kind int, n uint64) api.Errno {
	if c == nil {
		return api.ErrNil
	}
	if !rightKind(kind) {
		return api.ErrArg
	}
	c.numbers[kind] = together(c.numbers[kind], n, c.most)
	return api.OK
}

// Get: how many of a kind.
func (c *Counts) Get(kind int) uint64 {
	if c == nil || !rightKind(kind) {
		return 0
	}
	return c.numbers[kind]
}

// Total: how many of all kinds.
func (c *Counts) Total() uint64 {
	if c == nil {
		return 0
	}
	var all uint64
	for _, n := range c.numbers {
		all = together(all, n, math.MaxUint64)
	}
	return all
}

// Copy: another one as it is.
func (c *Counts) Copy() *Counts {
	if c == nil {
		return nil
	}
	d := *c
	return &d
}

// together: two numbers, the first of which is at most most, added, but most where that is less.
func together(a, b, most uint64) uint64 {
	// Held against the room that is left: the sum could go round.
	if b > most-a {
		return most
	}
	return a + b
}

// rightKind: is there such a kind?
func rightKind(kind int) bool {
	return kind >= 0 && kind < Kinds
}

package ghost

import (
	"iter"
	"slices"

	"steelyard/addr"
	"steelyard/api"
	"steelyard/cursor"
	"steelyard/fleet"
	"steelyard/flow"
	"steelyard/geneve"
	"steelyard/tuple"
)

// The one option of a frame; its data are a Gen.
const (
	optClass = 1
	optType  = 1
	sizeGen  = 8
)

// coming is a backend of a Gen.
type coming struct {
	backend int
	gen     int64
}

// owned is a tuple at an owner.
type owned struct {
	owner int
	t     api.Tuple
}

// pin is a flow, and where its packets go.
type pin struct {
	f  flow.Flow
	to coming
}

// way is what grants are for: the replica that asked, a tuple, a backend. Whose grants they are nothing hangs on.
type way struct {
	from int
	t    api.Tuple
	to   coming
}

// ready: a model that New did not make has its maps, too.
func (m *Model) ready() {
	if m.flows == nil {
		m.flows, m.open, m.freed = map[owned]pin{}, map[way][]int64{}, map[coming]struct{}{}
	}
}

// may: may that which is seen be? If so, it is so.
func (m *Model) may(s fleet.Seen) bool {
	m.ready()
	switch s.Kind {
	case fleet.Granted:
		return m.grant(s)
	case fleet.Framed:
		return m.frame(s)
	case fleet.Dropped:
		return s.Drop >= 0 && s.Drop < tuple.Kinds
	case fleet.Freed:
		return m.free(s)
	}
	return false
}

// grant: an owner gave a packet to a backend.
func (m *Model) grant(s fleet.Seen) bool {
	g := s.Grant
	to := coming{backend: g.Backend, gen: g.Gen}
	if !addr.RightTuple(g.T) || !rightNode(g.From) || !to.right() || g.Until < s.Now || m.isFreed(to) {
		return false
	}
	f, ok := m.behind(s)
	if !ok {
		return false
	}
	m.keep(owned{owner: s.Node, t: g.T}, pin{f: f, to: to})
	m.opens(way{from: g.From, t: g.T, to: to}, g.Until)
	return true
}

// behind: the flow of a grant's packet behind it; false, if it may not be.
func (m *Model) behind(s fleet.Seen) (flow.Flow, bool) {
	g := s.Grant
	was := m.flows[owned{owner: s.Node, t: g.T}]
	if flow.Live(was.f, s.Now) {
		f, e := flow.Step(was.f, g.Flags, s.Now)
		return f, e == api.OK && !g.New && was.to == coming{backend: g.Backend, gen: g.Gen}
	}
	f, e := flow.Begin(g.T.Proto, g.Flags, s.Now)
	return f, e == api.OK && g.New
}

// keep: a flow stands as it is behind a packet, unless it is over: then it lives at no time.
func (m *Model) keep(at owned, p pin) {
	if p.f.State == flow.Over {
		delete(m.flows, at)
		return
	}
	m.flows[at] = p
}

// opens: a grant more may be used until then.
func (m *Model) opens(w way, until int64) {
	l := m.open[w]
	m.open[w] = slices.Insert(l, usable(l, until), until)
}

// frame: a replica sent a packet on, by a grant that it had for it.
func (m *Model) frame(s fleet.Seen) bool {
	to := coming{backend: s.Frame.Backend, gen: s.Frame.Gen}
	w := way{from: s.Node, t: s.Frame.T, to: to}
	l := m.open[w]
	i := usable(l, s.Now)
	if i == len(l) || m.isFreed(to) || !carries(s) {
		return false
	}
	m.open[w] = slices.Delete(l, i, i+1)
	if len(l) == 1 {
		delete(m.open, w)
	}
	return true
}

// carries: does a frame have a packet of its tuple within, and its Gen as its one option?
func carries(s fleet.Seen) bool {
	_, t, e := geneve.Unwrap(s.Frame.Data)
	if e != api.OK || len(t.Opts) != 1 || !says(t.Opts[0], s.Frame.Gen) {
		return false
	}
	in, e := tuple.Of(t.Inner)
	return e == api.OK && in.T == s.Frame.T
}

// says: is an option a Gen's, and that Gen?
func says(o geneve.Opt, gen int64) bool {
	r := cursor.New(o.Data)
	n := r.Num(sizeGen)
	return o.Class == optClass && o.Type == optType && r.End() == api.OK && n == uint64(gen)
}

// free: a backend is released, which no flow, and no grant that may be used, goes to.
func (m *Model) free(s fleet.Seen) bool {
	to := coming{backend: s.Gone.Backend, gen: s.Gone.Gen}
	if !to.right() || m.busy(to, s.Now) {
		return false
	}
	m.freed[to] = struct{}{}
	return true
}

// busy: does a flow to a backend live, of any owner, or may a grant to it be used?
func (m *Model) busy(to coming, now int64) bool {
	for f := range m.living(now) {
		if f.Backend == to.backend && f.Gen == to.gen {
			return true
		}
	}
	for w, l := range m.open {
		if w.to == to && usable(l, now) < len(l) {
			return true
		}
	}
	return false
}

// living: the flows that live at a time, in no order.
func (m *Model) living(now int64) iter.Seq[Flow] {
	return func(yield func(Flow) bool) {
		for at, p := range m.flows {
			if flow.Live(p.f, now) && !yield(Flow{Owner: at.owner, T: at.t, Backend: p.to.backend, Gen: p.to.gen}) {
				return
			}
		}
	}
}

// isFreed: is it released?
func (m *Model) isFreed(to coming) bool {
	_, ok := m.freed[to]
	return ok
}

// usable: the place of the first of these times, which rise, that is at now or above.
func usable(l []int64, now int64) int {
	i, _ := slices.BinarySearch(l, now)
	return i
}

// right: can there be such a backend, of such a Gen?
func (to coming) right() bool {
	return to.backend >= 0 && to.backend < api.MaxBackends && to.gen >= 1 && to.gen <= api.MaxTicks
}

// rightNode: can there be such a replica?
func rightNode(i int) bool {
	return i >= 0 && i < api.MaxNodes
}

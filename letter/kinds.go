package letter

import (
	"steelyard/addr"
	"steelyard/api"
	"steelyard/cursor"
	"steelyard/life"
	"steelyard/member"
	"steelyard/pool"
	"steelyard/swim"
)

// How many bytes a body's numbers have.
const (
	sizeSmall = 1 // a kind, a replica, a backend, flags, how many there are
	sizeLong  = 6 // a number of its own, a Gen, a time
	sizeRec   = 2 // how many bytes a Rec has
	sizeMark  = 4
	sizeAddr  = 16
)

// What the byte ahead of an address says.
const (
	versionFour = 4
	versionSix  = 6
)

const mostFlags = 255

func (m message) right() bool {
	if m.Kind < swim.Ping || m.Kind > swim.Req || !rightNode(m.To) || !rightNode(m.From) || !rightNode(m.Target) || !rightNumber(m.Seq) || len(m.News) > swim.Most {
		return false
	}
	for _, i := range m.News {
		if !rightNode(i.Node) || !member.Right(i.Info) {
			return false
		}
	}
	return true
}

func (m message) lay(p *pieces) {
	p.num(sizeSmall, uint64(m.Kind))
	p.num(sizeSmall, uint64(m.To))
	p.num(sizeSmall, uint64(m.From))
	p.num(sizeLong, uint64(m.Seq))
	p.num(sizeSmall, uint64(m.Target))
	p.num(sizeSmall, uint64(len(m.News)))
	for _, i := range m.News {
		p.num(sizeSmall, uint64(i.Node))
		p.num(sizeSmall, uint64(i.Info.State))
		p.num(sizeLong, uint64(i.Info.Inc))
	}
}

func readMessage(r *cursor.Reader) body {
	m := message{Kind: small(r), To: small(r), From: small(r), Seq: long(r), Target: small(r)}
	for range small(r) {
		m.News = append(m.News, swim.Item{Node: small(r), Info: member.Info{State: small(r), Inc: long(r)}})
	}
	return m
}

func (l updates) right() bool {
	for _, u := range l {
		if u.Rec.Gen < 1 || !life.Right(u.Rec) {
			return false
		}
	}
	return rising(l, func(u pool.Update) int { return u.Backend })
}

func (l updates) lay(p *pieces) {
	p.num(sizeSmall, uint64(len(l)))
	for _, u := range l {
		b, _ := life.Put(u.Rec) // it can be
		p.num(sizeSmall, uint64(u.Backend))
		p.num(sizeRec, uint64(len(b)))
		p.take(b)
	}
}

func readUpdates(r *cursor.Reader) body {
	var l updates
	for range small(r) {
		u := pool.Update{Backend: small(r)}
		u.Rec, _ = life.Get(r.Take(int(r.Num(sizeRec)))) // of other bytes it has the Gen 0, which no update has
		l = append(l, u)
	}
	return l
}

func (l marks) right() bool {
	return rising(l, func(m pool.Mark) int { return m.Backend })
}

func (l marks) lay(p *pieces) {
	p.num(sizeSmall, uint64(len(l)))
	for _, m := range l {
		p.num(sizeSmall, uint64(m.Backend))
		p.num(sizeMark, uint64(m.Sum))
	}
}

func readMarks(r *cursor.Reader) body {
	var l marks
	for range small(r) {
		l = append(l, pool.Mark{Backend: small(r), Sum: uint32(r.Num(sizeMark))})
	}
	return l
}

func (a asked) right() bool {
	return rightNumber(a.Id) && addr.RightTuple(a.T) && a.Flags >= 0 && a.Flags <= mostFlags && (a.T.Proto == api.Tcp || a.Flags == 0)
}

func (a asked) lay(p *pieces) {
	t, _ := addr.PutTuple(a.T) // it can be
	p.num(sizeLong, uint64(a.Id))
	p.take(t)
	p.num(sizeSmall, uint64(a.Flags))
}

func readAsked(r *cursor.Reader) body {
	a := asked{Id: long(r)}
	a.T, _ = addr.GetTuple(r.Take(addr.TupleSize)) // of other bytes it is the zero tuple, which can't be
	a.Flags = small(r)
	return a
}

func (a answer) right() bool {
	if !rightNumber(a.Id) {
		return false
	}
	switch a.Why {
	case Yes:
		return rightBackend(a.Backend) && rightNumber(a.Gen) && addr.Right(a.Addr) && a.Until >= 0 && a.Until <= api.MaxTicks
	case NoOne, NoRoom:
		return a == answer{Id: a.Id, Why: a.Why}
	}
	return false
}

func (a answer) lay(p *pieces) {
	of := uint64(versionFour)
	if a.Addr.V6 {
		of = versionSix
	}
	p.num(sizeLong, uint64(a.Id))
	p.num(sizeSmall, uint64(a.Why))
	p.num(sizeSmall, uint64(a.Backend))
	p.num(sizeLong, uint64(a.Gen))
	p.num(sizeSmall, of)
	p.take(a.Addr.B[:])
	p.num(sizeLong, uint64(a.Until))
}

func readAnswer(r *cursor.Reader) body {
	a := answer{Id: long(r), Why: small(r), Backend: small(r), Gen: long(r)}
	of := small(r)
	if of != versionFour && of != versionSix {
		return nil
	}
	a.Addr.V6 = of == versionSix
	copy(a.Addr.B[:], r.Take(sizeAddr))
	a.Until = long(r)
	return a
}

// small, long: the next number.
func small(r *cursor.Reader) int {
	return int(r.Num(sizeSmall))
}

func long(r *cursor.Reader) int64 {
	return int64(r.Num(sizeLong))
}

// rising: is there one at least, and is each one of a backend that is greater than the one ahead?
func rising[T any](l []T, backend func(T) int) bool {
	last := -1
	for _, x := range l {
		if !rightBackend(backend(x)) || backend(x) <= last {
			return false
		}
		last = backend(x)
	}
	return len(l) > 0
}

func rightNode(node int) bool {
	return node >= 0 && node < api.MaxNodes
}

func rightBackend(backend int) bool {
	return backend >= 0 && backend < api.MaxBackends
}

// rightNumber: can it be a number of its own, or a Gen?
func rightNumber(n int64) bool {
	return n >= 1 && n <= api.MaxTicks
}

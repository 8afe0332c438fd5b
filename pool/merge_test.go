package pool_test

import (
	"math"
	"testing"

	"steelyard/api"
	"steelyard/life"
	"steelyard/maglev"
	"steelyard/pool"
	"steelyard/sums"
)

func TestMerge(t *testing.T) {
	for _, c := range []struct {
		name     string
		was, r   life.Rec
		want     life.Rec
		is       bool
		clock    int64
		clockWas int64
	}{
		{"of nothing", life.Rec{}, simple(), simple(), true, 5, 0},
		{"of nothing, all there may be", life.Rec{}, full(), full(), true, 1000, 0},
		{"the same", simple(), simple(), simple(), false, 5, 5},
		{"the same, all there may be", full(), full(), full(), false, 1000, 1000},
		{"a lesser Gen", but(simple(), func(r *life.Rec) { r.Gen = 2 }), simple(), but(simple(), func(r *life.Rec) { r.Gen = 2 }), false, 5, 5},
		{"a lesser Gen of a later stamp", but(simple(), func(r *life.Rec) { r.Gen = 8 }), full(), but(simple(), func(r *life.Rec) { r.Gen = 8 }), false, 1000, 5},
		{"a lesser Gen of a later vote", but(simple(), func(r *life.Rec) { r.Gen = 8 }), but(simple(), func(r *life.Rec) { r.Votes = votes{yes(9)} }), but(simple(), func(r *life.Rec) { r.Gen = 8 }), false, 9, 5},
		{"a greater Gen", simple(), full(), full(), true, 1000, 5},
		{"a greater Gen of an earlier stamp", but(full(), func(r *life.Rec) { r.Gen = 1 }), but(simple(), func(r *life.Rec) { r.Gen = 2 }), but(simple(), func(r *life.Rec) { r.Gen = 2 }), true, 1000, 1000},
		{"a greater life", simple(), lived(api.Draining), lived(api.Draining), true, 5, 5},
		{"a lesser life", lived(api.Released), lived(api.Draining), lived(api.Released), false, 5, 5},
		{"an earlier Spec", simple(), but(simple(), func(r *life.Rec) { r.Spec.Stamp, r.Spec.By = 4, 9 }), simple(), false, 5, 5},
		{"a Spec of the same stamp, of a greater replica", simple(), but(simple(), func(r *life.Rec) { r.Spec.By = 9 }), but(simple(), func(r *life.Rec) { r.Spec.By = 9 }), true, 5, 5},
		{"a vote of another one", but(simple(), func(r *life.Rec) { r.Votes = votes{yes(8)} }), but(simple(), func(r *life.Rec) { r.Votes = votes{{}, no(7)} }), but(simple(), func(r *life.Rec) { r.Votes = votes{yes(8), no(7)} }), true, 8, 8},
		{"an earlier vote", but(simple(), func(r *life.Rec) { r.Votes = votes{yes(8)} }), but(simple(), func(r *life.Rec) { r.Votes = votes{no(7)} }), but(simple(), func(r *life.Rec) { r.Votes = votes{yes(8)} }), false, 8, 8},
		{"a bit more", but(simple(), func(r *life.Rec) { r.Done = 5 }), but(simple(), func(r *life.Rec) { r.Done = 2 }), but(simple(), func(r *life.Rec) { r.Done = 7 }), true, 5, 5},
		{"bits that were there", but(simple(), func(r *life.Rec) { r.Done = 5 }), but(simple(), func(r *life.Rec) { r.Done = 4 }), but(simple(), func(r *life.Rec) { r.Done = 5 }), false, 5, 5},
		{"what is later and earlier", but(simple(), func(r *life.Rec) { r.Life, r.Spec.Stamp = api.Draining, 4 }), simple(), lived(api.Draining), true, 5, 4},
		{"the greatest stamp", simple(), but(simple(), func(r *life.Rec) { r.Votes = votes{yes(api.MaxTicks)} }), but(simple(), func(r *life.Rec) { r.Votes = votes{yes(api.MaxTicks)} }), true, api.MaxTicks, 5},
		{"bits of more replicas than there are", simple(), but(simple(), func(r *life.Rec) { r.Done, r.Spec.By = 1<<15, 15 }), but(simple(), func(r *life.Rec) { r.Done, r.Spec.By = 1<<15, 15 }), true, 5, 5},
	} {
		p := made(t, 0, 3)
		if c.was.Gen > 0 {
			merged(t, p, 3, c.was, true)
		}
		if p.Clock() != c.clockWas {
			t.Errorf("%s: at %d ahead", c.name, p.Clock())
		}
		is, e := p.Merge(pool.Update{Backend: 3, Rec: c.r})
		if r := p.Get(3); is != c.is || e != api.OK || !life.Same(r, c.want) || p.Clock() != c.clock {
			t.Errorf("%s: Merge = %t, %d; %v at %d", c.name, is, e, r, p.Clock())
		}
		if n := len(known(p)); n != 1 {
			t.Errorf("%s: %d are known", c.name, n)
		}
	}
}

// notMerged fails unless Merge answers ErrArg alone, and changes nothing.
func notMerged(t *testing.T, p *pool.Pool, u pool.Update) {
	t.Helper()
	refused(t, p, func() (pool.Update, api.Errno) {
		is, e := p.Merge(u)
		if is {
			t.Errorf("Merge of %d = true", u.Backend)
		}
		return pool.Update{}, e
	}, api.ErrArg)
}

func TestMergeOfWhatCanNotBe(t *testing.T) {
	for _, p := range []*pool.Pool{made(t, 0, 3), of(t, 2, 3, simple()), of(t, 2, 3, full())} {
		for _, backend := range noBackends() {
			notMerged(t, p, pool.Update{Backend: backend, Rec: simple()})
			notMerged(t, p, pool.Update{Backend: backend})
		}
		for _, r := range wrongs() {
			notMerged(t, p, pool.Update{Backend: 3, Rec: r})
			notMerged(t, p, pool.Update{Backend: 4, Rec: r})
		}
	}
}

// TestNewStamps: a new stamp is one above the greatest that ever came, of any backend, also if it did not stay.
func TestNewStamps(t *testing.T) {
	for _, change := range []func(r *life.Rec){
		func(r *life.Rec) { r.Spec.Stamp = 77 },
		func(r *life.Rec) { r.Votes = votes{{}, yes(77), no(76)} },
		func(r *life.Rec) { r.Votes = votes{no(77), {}, yes(3)} },
	} {
		p := made(t, 0, 3)
		merged(t, p, 9, but(simple(), func(r *life.Rec) { r.Gen = 2 }), true)
		merged(t, p, 9, but(simple(), change), false)
		u, e := p.Do(add(four(), 1))
		answered(t, p, u, e, 3, life.Rec{Gen: 1, Life: api.Active, Spec: life.Spec{Stamp: 78, Weight: 1}}, 78)
		u, e = p.Vote(9, false)
		answered(t, p, u, e, 9, but(simple(), func(r *life.Rec) { r.Gen, r.Votes = 2, votes{no(79)} }), 79)
	}
	p := of(t, 0, 1, but(simple(), func(r *life.Rec) { r.Life, r.Votes = api.Released, votes{{}, {}, yes(50)} }))
	u, e := p.Do(add(four(), 1)) // the vote is gone, its stamp is not
	answered(t, p, u, e, 3, life.Rec{Gen: 2, Life: api.Active, Spec: life.Spec{Stamp: 51, Weight: 1}}, 51)
}

func markOf(t *testing.T, backend int, r life.Rec) pool.Mark {
	t.Helper()
	b, e := life.Put(r)
	if e != api.OK {
		t.Fatalf("Put(%v): %d", r, e)
	}
	return pool.Mark{Backend: backend, Sum: sums.Crc(b)}
}

// sameMarks fails unless these are the marks.
func sameMarks(t *testing.T, got, want []pool.Mark) {
	t.Helper()
	if len(got) != len(want) {
		t.Fatalf("Marks = %v, want %v", got, want)
	}
	for i := range want {
		if got[i] != want[i] {
			t.Fatalf("Marks = %v, want %v", got, want)
		}
	}
}

func TestMarks(t *testing.T) {
	p := made(t, 0, 3)
	merged(t, p, 31, full(), true)
	merged(t, p, 0, simple(), true)
	merged(t, p, 7, lived(api.Released), true)
	sameMarks(t, p.Marks(), []pool.Mark{markOf(t, 0, simple()), markOf(t, 7, lived(api.Released)), markOf(t, 31, full())})
	p = of(t, 0, 3, simple())
	sameMarks(t, p.Marks(), []pool.Mark{{Backend: 3, Sum: 0x76b67bb6}})
	all, l := all32(t)
	var want []pool.Mark
	for _, u := range l {
		want = append(want, markOf(t, u.Backend, u.Rec))
	}
	sameMarks(t, all.Marks(), want)
}

func TestLacks(t *testing.T) {
	p := made(t, 0, 3)
	l := []pool.Update{{Backend: 0, Rec: simple()}, {Backend: 7, Rec: lived(api.Released)}, {Backend: 31, Rec: full()}}
	for _, i := range []int{2, 0, 1} {
		merged(t, p, l[i].Backend, l[i].Rec, true)
	}
	m := p.Marks()
	off := func(i int) pool.Mark { return pool.Mark{Backend: m[i].Backend, Sum: m[i].Sum + 1} }
	for _, c := range []struct {
		name  string
		marks []pool.Mark
		want  []pool.Update
	}{
		{"nil", nil, l},
		{"none", []pool.Mark{}, l},
		{"its own", m, nil},
		{"its own, falling", []pool.Mark{m[2], m[1], m[0]}, nil},
		{"one", m[1:2], []pool.Update{l[0], l[2]}},
		{"another sum", []pool.Mark{m[0], off(1), m[2]}, l[1:2]},
		{"other sums", []pool.Mark{off(0), off(1), off(2)}, l},
		{"the first one counts", []pool.Mark{m[0], off(0), off(1), m[1], off(2), off(2), m[2]}, l[1:]},
		{"the first one counts, twice the same", []pool.Mark{m[0], m[0], m[1], m[2], off(2), off(1)}, nil},
		{"another one's sum", []pool.Mark{{Backend: 0, Sum: m[1].Sum}, {Backend: 7, Sum: m[0].Sum}, m[2]}, l[:2]},
		{"of one that is not known", []pool.Mark{{Backend: 5, Sum: m[0].Sum}, m[0], m[1], m[2]}, nil},
		{"the sum 0", []pool.Mark{{Backend: 0}, {Backend: 7}, {Backend: 31}}, l},
		{"of ones that can't be", []pool.Mark{{Backend: -1, Sum: m[0].Sum}, {Backend: 32, Sum: m[0].Sum}, {Backend: 1 << 32, Sum: m[0].Sum}, {Backend: 1<<32 + 7, Sum: m[1].Sum}}, l},
	} {
		if got := p.Lacks(c.marks); !alike(got, c.want) {
			t.Errorf("%s: Lacks = %v, want %v", c.name, got, c.want)
		}
	}
	if got := made(t, 0, 3).Lacks(m); len(got) != 0 {
		t.Errorf("of nothing: Lacks = %v", got)
	}
}

// TestLacksOfTheSumZero: no mark is not a mark of the sum 0, even where that is the sum.
func TestLacksOfTheSumZero(t *testing.T) {
	r := but(simple(), func(r *life.Rec) { r.Spec.Weight = math.Float64frombits(0x3ff00000b7652701) })
	p := of(t, 0, 3, r)
	sameMarks(t, p.Marks(), []pool.Mark{{Backend: 3, Sum: 0}})
	if l := p.Lacks(nil); !alike(l, []pool.Update{{Backend: 3, Rec: r}}) {
		t.Errorf("Lacks = %v", l)
	}
	if l := p.Lacks([]pool.Mark{{Backend: 4, Sum: 0}, {Backend: 3, Sum: 0}}); len(l) != 0 {
		t.Errorf("Lacks = %v", l)
	}
}

func TestTakes(t *testing.T) {
	bad, good := no(2), yes(2)
	for _, c := range []struct {
		name  string
		nodes int
		r     life.Rec
		want  bool
	}{
		{"Active", 1, simple(), true},
		{"Draining", 1, lived(api.Draining), false},
		{"Released", 1, lived(api.Released), false},
		{"the weight 0", 1, but(simple(), func(r *life.Rec) { r.Spec.Weight = 0 }), false},
		{"the least weight", 1, but(simple(), func(r *life.Rec) { r.Spec.Weight = smallest }), true},
		{"the greatest weight", 1, but(simple(), func(r *life.Rec) { r.Spec.Weight = greatest }), true},
		{"one of one finds it not well", 1, but(simple(), func(r *life.Rec) { r.Votes = votes{bad} }), false},
		{"one of two", 2, but(simple(), func(r *life.Rec) { r.Votes = votes{bad} }), false},
		{"one of three", 3, but(simple(), func(r *life.Rec) { r.Votes = votes{bad} }), true},
		{"two of three", 3, but(simple(), func(r *life.Rec) { r.Votes = votes{bad, bad} }), false},
		{"two of four", 4, but(simple(), func(r *life.Rec) { r.Votes = votes{{}, bad, {}, bad} }), false},
		{"two of five", 5, but(simple(), func(r *life.Rec) { r.Votes = votes{{}, bad, {}, bad} }), true},
		{"one that is none of one", 1, but(simple(), func(r *life.Rec) { r.Votes = votes{good, bad} }), true},
		{"found well, Draining", 3, but(simple(), func(r *life.Rec) { r.Life, r.Votes = api.Draining, votes{good, good, good} }), false},
		{"found well, of the weight 0", 3, but(simple(), func(r *life.Rec) { r.Spec.Weight, r.Votes = 0, votes{good, good, good} }), false},
	} {
		p := of(t, 0, c.nodes, c.r)
		if p.Takes(3) != c.want {
			t.Errorf("%s: Takes = %t", c.name, !c.want)
		}
		table, e := p.Table(5)
		if want := api.OK; c.want && (e != want || maglev.Held(table, 3) != 5) || !c.want && (e != api.ErrNone || len(table) != 0) {
			t.Errorf("%s: Table = %v, %d", c.name, table, e)
		}
		for _, backend := range append(noBackends(), 2, 4) {
			if p.Takes(backend) {
				t.Errorf("%s: %d takes flows", c.name, backend)
			}
		}
	}
}

// TestTable: of those that take flows, with their weights.
func TestTable(t *testing.T) {
	p := made(t, 0, 3)
	for backend, r := range map[int]life.Rec{
		31: but(simple(), func(r *life.Rec) { r.Spec.Weight = 3 }),
		0:  simple(),
		4:  lived(api.Draining),
		5:  but(simple(), func(r *life.Rec) { r.Votes = votes{no(1), no(1)} }),
		6:  but(simple(), func(r *life.Rec) { r.Spec.Weight = 0 }),
		9:  but(simple(), func(r *life.Rec) { r.Spec.Weight = 0.25 }),
		10: lived(api.Released),
	} {
		merged(t, p, backend, r, true)
	}
	for _, slots := range []int{2, 3, 7, 251, 1021} {
		want, _ := maglev.Build([]maglev.Entry{{Id: 0, Weight: 1}, {Id: 9, Weight: 0.25}, {Id: 31, Weight: 3}}, slots)
		table, e := p.Table(slots)
		if e != api.OK || len(table) != slots {
			t.Fatalf("Table(%d) = %v, %d", slots, table, e)
		}
		if n, e := maglev.Moved(table, want); n != 0 || e != api.OK {
			t.Errorf("Table(%d) = %v, want %v", slots, table, want)
		}
	}
	none := made(t, 0, 3)
	for _, slots := range []int{-7, -1, 0, 1, 4, 6, 1020, 1022, 1023, 1031, 1 << 32} {
		for _, x := range []*pool.Pool{p, none} { // of no entries, too, ErrArg is named first
			if table, e := x.Table(slots); len(table) != 0 || e != api.ErrArg {
				t.Errorf("Table(%d) = %v, %d", slots, table, e)
			}
		}
	}
}

// TestSharesNothing: what is handed in isn't changed or kept, and no votes that are answered share memory with others.
func TestSharesNothing(t *testing.T) {
	given := pool.Update{Backend: 3, Rec: full()}
	p := made(t, 0, 16)
	if is, e := p.Merge(given); !is || e != api.OK || !life.Same(given.Rec, full()) {
		t.Fatalf("Merge = %t, %d, of %v", is, e, given)
	}
	clear(given.Rec.Votes)
	spoil := func(name string, r life.Rec) {
		t.Helper()
		clear(r.Votes[:cap(r.Votes)])
		_ = append(r.Votes[:1], life.Vote{Stamp: 9, Ok: true})
		if got := p.Get(3).Votes; len(got) != 16 || got[1].Stamp == 9 || got[15].Stamp != 115 {
			t.Errorf("behind changes of what %s answered: %v", name, got)
		}
	}
	q := p.Copy()
	spoil("nobody", life.Rec{Votes: make(votes, 16)})
	spoil("Get", p.Get(3))
	for _, r := range p.All() {
		spoil("All", r)
	}
	spoil("Lacks", p.Lacks(nil)[0].Rec)
	spoil("another one's Get", q.Get(3))
	u, _ := p.Done(3)
	spoil("Done", u.Rec)
	u, _ = p.Vote(3, true)
	spoil("Vote", u.Rec)
	released := p.Copy()
	spoil("Settle", p.Settle()[0].Rec)
	spoil("another one's Settle", released.Settle()[0].Rec)
	p = of(t, 0, 16, but(full(), func(r *life.Rec) { r.Life = api.Active }))
	u, _ = p.Do(add(four(), 1))
	spoil("CmdAdd", u.Rec)
	u, _ = p.Do(drain())
	spoil("CmdDrain", u.Rec)
	m := p.Marks()
	was := m[0]
	if p.Lacks(m); m[0] != was {
		t.Errorf("Lacks makes %v of %v", m[0], was)
	}
	m[0].Sum++
	sameMarks(t, p.Marks(), []pool.Mark{was})
	a := of(t, 0, 3, simple())
	table, _ := a.Table(7)
	clear(table)
	if again, _ := a.Table(7); maglev.Held(again, 3) != 7 {
		t.Errorf("behind changes: Table = %v", again)
	}
}

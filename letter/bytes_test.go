package letter_test

import (
	"bytes"
	"encoding/binary"
	"hash/crc32"
	"math/rand"
	"slices"
	"testing"

	"steelyard/addr"
	"steelyard/api"
	"steelyard/letter"
	"steelyard/life"
	"steelyard/member"
	"steelyard/pool"
	"steelyard/swim"
)

// sealed: a body of a kind with all that stands around it, by the library's sum.
func sealed(kind byte, body []byte) []byte {
	b := append([]byte{1, kind, byte(len(body) >> 8), byte(len(body))}, body...)
	return binary.BigEndian.AppendUint32(b, crc32.ChecksumIEEE(b))
}

// written: letters and their bodies' bytes.
func written() []struct {
	l    letter.Letter
	body []byte
} {
	l := simple()
	noOne, six := told(letter.Answer{Id: 0x010203040506 >> 8, Why: letter.NoOne}), told(letter.Answer{Id: 8, Backend: 31, Gen: 1, Addr: six(0xfd, 1, 2, 3, 4, 5, 6, 7, 8, 9, 10, 11, 12, 13, 14, 15)})
	v6 := ask(letter.Asked{Id: 1, T: udp()})
	bare, voted := []byte{
		0, 0, 0, 0, 0, 1, 1, 0, 0, 0, 0, 0, 5, 2, 4, 10, 1, 0, 2, 0, 0, 0, 0, 0, 0, 0, 0, 0, 0, 0, 0, 0x3f, 0xf0, 0, 0, 0, 0, 0, 0, 0, 0, 0,
	}, []byte{
		0, 0, 0, 0, 0, 1, 1, 0, 0, 0, 0, 0, 5, 2, 4, 10, 1, 0, 2, 0, 0, 0, 0, 0, 0, 0, 0, 0, 0, 0, 0, 0x3f, 0xf0, 0, 0, 0, 0, 0, 0,
		2, 0, 0, 0, 0, 0, 1, 1, 0, 0, 0, 0, 0, 2, 0, 0, 0,
	}
	return []struct {
		l    letter.Letter
		body []byte
	}{
		{l[letter.Member], []byte{3, 1, 2, 0, 1, 2, 3, 4, 5, 3, 2, 4, 1, 0, 0, 0, 0, 0, 6, 15, 2, 1, 0, 0, 0, 0, 0}},
		{message(swim.Msg{Kind: swim.Ack, From: 15, Seq: api.MaxTicks}), []byte{2, 0, 15, 1, 0, 0, 0, 0, 0, 0, 0}},
		{l[letter.Updates], slices.Concat([]byte{2, 3, 0, 42}, bare, []byte{31, 0, 56}, voted)},
		{l[letter.Marks], []byte{2, 0, 0, 0, 0, 7, 9, 0xfe, 0xdc, 0xba, 0x98}},
		{l[letter.Ask], []byte{
			0, 10, 11, 12, 13, 14,
			4, 6, 1, 2, 3, 4, 0, 0, 0, 0, 0, 0, 0, 0, 0, 0, 0, 0, 6, 7, 8, 9, 0, 0, 0, 0, 0, 0, 0, 0, 0, 0, 0, 0, 0, 5, 0, 10,
			0x92,
		}},
		{v6, slices.Concat([]byte{0, 0, 0, 0, 0, 1, 6, 17, 0xfd, 1}, make([]byte, 14), bytes.Repeat([]byte{0xfd}, 16), []byte{0, 5, 0, 10, 0})},
		{l[letter.Told], []byte{
			0, 0, 0, 0, 0, 8, 0, 2, 0, 2, 3, 4, 5, 6,
			4, 10, 1, 0, 2, 0, 0, 0, 0, 0, 0, 0, 0, 0, 0, 0, 0,
			0, 7, 8, 9, 10, 11,
		}},
		{six, []byte{
			0, 0, 0, 0, 0, 8, 0, 31, 0, 0, 0, 0, 0, 1,
			6, 0xfd, 1, 2, 3, 4, 5, 6, 7, 8, 9, 10, 11, 12, 13, 14, 15,
			0, 0, 0, 0, 0, 0,
		}},
		{noOne, append([]byte{0, 1, 2, 3, 4, 5, 1, 0, 0, 0, 0, 0, 0, 0, 4}, make([]byte, 22)...)},
	}
}

// TestExample is the document's.
func TestExample(t *testing.T) {
	b, e := letter.Put(marks(pool.Mark{Backend: 3, Sum: 5}))
	want := []byte{1, 3, 0, 6, 1, 3, 0, 0, 0, 5}
	if e != api.OK || len(b) != 14 || !bytes.Equal(b[:10], want) || binary.BigEndian.Uint32(b[10:]) != crc32.ChecksumIEEE(want) {
		t.Errorf("Put = %x, %d", b, e)
	}
}

func TestPutAndGet(t *testing.T) {
	for _, w := range written() {
		b := sealed(byte(w.l.Kind), w.body)
		if got, e := letter.Put(w.l); !bytes.Equal(got, b) || e != api.OK {
			t.Errorf("Put(%+v) = %x, %d, want %x", w.l, got, e, b)
		}
		if got, e := letter.Get(b); !alike(got, w.l) || e != api.OK {
			t.Errorf("Get(%x) = %+v, %d, want %+v", b, got, e, w.l)
		}
	}
}

// asWritten fails unless a letter that can be goes through its bytes as it was (P17.2, P6).
func asWritten(t testing.TB, l letter.Letter) []byte {
	t.Helper()
	b, e := letter.Put(l)
	if e != api.OK {
		t.Fatalf("Put(%+v): %d", l, e)
	}
	back, e := letter.Get(b)
	if !alike(back, l) || e != api.OK {
		t.Fatalf("Get(Put(%+v)) = %+v, %d", l, back, e)
	}
	return b
}

// TestAsItWas is P17.2, and P6, of those at the edges and by chance, and of what comes near to them.
func TestAsItWas(t *testing.T) {
	rnd := rand.New(rand.NewSource(1))
	l := rights()
	for range 3000 {
		l = append(l, chance{rnd, 0}.letter())
	}
	for _, l := range l {
		b := asWritten(t, l)
		asPlain(t, b)
		body := bytes.Clone(b[4 : len(b)-4])
		body[rnd.Intn(len(body))] ^= 1 << rnd.Intn(8)
		asPlain(t, sealed(b[1], body))
		asPlain(t, sealed(byte(rnd.Intn(7)), body))
		asPlain(t, sealed(b[1], body[:rnd.Intn(len(body))]))
		asPlain(t, sealed(b[1], append(body, 0)))
	}
}

// plain reads by the document's words: bytes are cut off from the left, and there is a letter only if there was no fault at all.
type plain struct {
	b   []byte
	bad bool
}

func (p *plain) take(n int) []byte {
	if n > len(p.b) {
		p.bad = true
		return make([]byte, n)
	}
	b := p.b[:n]
	p.b = p.b[n:]
	return b
}

func (p *plain) num(size int) int64 {
	var n int64
	for _, x := range p.take(size) {
		n = n*256 + int64(x)
	}
	return n
}

func (p *plain) is(ok bool) {
	p.bad = p.bad || !ok
}

// plainGet is Get by the document's words.
func plainGet(b []byte) (letter.Letter, api.Errno) {
	if len(b) < 8 {
		return letter.Letter{}, api.ErrShort
	}
	if b[0] != 1 {
		return letter.Letter{}, api.ErrVersion
	}
	if len(b) != 8+int(binary.BigEndian.Uint16(b[2:])) {
		return letter.Letter{}, api.ErrForm
	}
	if crc32.ChecksumIEEE(b[:len(b)-4]) != binary.BigEndian.Uint32(b[len(b)-4:]) {
		return letter.Letter{}, api.ErrSum
	}
	p := &plain{b: b[4 : len(b)-4]}
	l := letter.Letter{Kind: int(b[1])}
	p.body(&l)
	if p.bad || len(p.b) > 0 || !plainRight(l) {
		return letter.Letter{}, api.ErrForm
	}
	return l, api.OK
}

func (p *plain) body(l *letter.Letter) {
	switch l.Kind {
	case letter.Member:
		l.Swim.Kind = int(p.num(1))
		l.Swim.To = int(p.num(1))
		l.Swim.From = int(p.num(1))
		l.Swim.Seq = p.num(6)
		l.Swim.Target = int(p.num(1))
		for n := p.num(1); n > 0; n-- {
			node, state := int(p.num(1)), int(p.num(1))
			l.Swim.News = append(l.Swim.News, swim.Item{Node: node, Info: member.Info{State: state, Inc: p.num(6)}})
		}
	case letter.Updates:
		for n := p.num(1); n > 0; n-- {
			backend, size := int(p.num(1)), int(p.num(2))
			r, e := life.Get(p.take(size))
			p.is(e == api.OK)
			l.Updates = append(l.Updates, pool.Update{Backend: backend, Rec: r})
		}
	case letter.Marks:
		for n := p.num(1); n > 0; n-- {
			backend := int(p.num(1))
			l.Marks = append(l.Marks, pool.Mark{Backend: backend, Sum: uint32(p.num(4))})
		}
	case letter.Ask:
		l.Ask.Id = p.num(6)
		tuple, e := addr.GetTuple(p.take(38))
		p.is(e == api.OK)
		l.Ask.T = tuple
		l.Ask.Flags = int(p.num(1))
	case letter.Told:
		l.Told.Id = p.num(6)
		l.Told.Why = int(p.num(1))
		l.Told.Backend = int(p.num(1))
		l.Told.Gen = p.num(6)
		of := p.num(1)
		p.is(of == 4 || of == 6)
		l.Told.Addr.V6 = of == 6
		copy(l.Told.Addr.B[:], p.take(16))
		l.Told.Until = p.num(6)
	default:
		p.is(false)
	}
}

// asPlain fails unless Get answers as the plain one does, changes nothing, and Put writes what it takes as it was.
func asPlain(t testing.TB, b []byte) {
	t.Helper()
	was := bytes.Clone(b)
	want, f := plainGet(b)
	l, e := letter.Get(b)
	if !alike(l, want) || e != f || !bytes.Equal(b, was) {
		t.Fatalf("Get(%x) = %+v, %d, want %+v, %d", was, l, e, want, f)
	}
	if e != api.OK {
		return
	}
	if back, e := letter.Put(l); !bytes.Equal(back, b) || e != api.OK {
		t.Fatalf("Put(Get(%x)) = %x, %d", b, back, e)
	}
}

// refused fails unless Get answers this error and nothing else.
func refused(t *testing.T, name string, b []byte, want api.Errno) {
	t.Helper()
	if l, e := letter.Get(b); !alike(l, letter.Letter{}) || e != want {
		t.Errorf("%s: Get(%x) = %+v, %d, want %d", name, b, l, e, want)
	}
}

// TestGetOfOrder: of several faults the one that is named first is answered.
func TestGetOfOrder(t *testing.T) {
	refused(t, "nil", nil, api.ErrShort)
	for n := range 8 {
		refused(t, "few", bytes.Repeat([]byte{1}, n), api.ErrShort)
		refused(t, "few of another version", bytes.Repeat([]byte{2}, n), api.ErrShort)
	}
	for _, version := range []byte{0, 2, 3, 128, 129, 255} {
		for _, b := range [][]byte{{0, 3, 0, 0, 0, 0, 0, 0}, {0, 3, 0, 5, 0, 0, 0, 0, 0}, sealed(3, []byte{1, 3, 0, 0, 0, 5})} {
			b[0] = version
			refused(t, "another version", b, api.ErrVersion)
			sum := crc32.ChecksumIEEE(b[:len(b)-4])
			refused(t, "another version with its sum", binary.BigEndian.AppendUint32(b[:len(b)-4], sum), api.ErrVersion)
		}
	}
	refused(t, "a wrong sum, one more, another kind", append(sealed(9, []byte{1, 3, 0, 0, 0, 5}), 0), api.ErrForm)
	refused(t, "a wrong sum of another kind", append(sealed(9, nil)[:7], 0), api.ErrSum)
	refused(t, "a wrong sum of no body", []byte{1, 3, 0, 0, 0, 0, 0, 0}, api.ErrSum)
	refused(t, "a wrong sum, one less", sealed(3, []byte{1, 3, 0, 0, 0})[:8+4], api.ErrForm)
	for kind := range 256 {
		refused(t, "of no body", sealed(byte(kind), nil), api.ErrForm)
	}
}

// TestGetOfLengths: as many bytes as are said, and no others, be the sum of all that is there right.
func TestGetOfLengths(t *testing.T) {
	for _, w := range written() {
		for said := range 600 {
			b := append([]byte{1, byte(w.l.Kind), byte(said >> 8), byte(said)}, w.body...)
			b = binary.BigEndian.AppendUint32(b, crc32.ChecksumIEEE(b))
			if said != len(w.body) {
				refused(t, "another length", b, api.ErrForm)
			}
		}
	}
	for _, n := range []int{65535, 65536, 65537, 65536 + 6, 200000} {
		body := append([]byte{1, 3, 0, 0, 0, 5}, make([]byte, n-6)...)
		refused(t, "long", sealed(3, body), api.ErrForm)
	}
}

// TestGetOfCutAndLonger is P17.3: of those that are cut, or longer; with the sum set right the body itself is refused.
func TestGetOfCutAndLonger(t *testing.T) {
	for _, w := range written() {
		b := sealed(byte(w.l.Kind), w.body)
		for n := range b {
			if n < 8 {
				refused(t, "cut", b[:n], api.ErrShort)
			} else {
				refused(t, "cut", b[:n], api.ErrForm)
			}
		}
		for _, more := range [][]byte{{0}, {255}, make([]byte, 4), b, make([]byte, 70000)} {
			refused(t, "longer", slices.Concat(b, more), api.ErrForm)
		}
		for n := range w.body {
			refused(t, "a body cut", sealed(b[1], w.body[:n]), api.ErrForm)
		}
		for _, more := range [][]byte{{0}, {255}, make([]byte, 8), w.body} {
			refused(t, "a longer body", sealed(b[1], slices.Concat(w.body, more)), api.ErrForm)
		}
	}
}

// TestGetOfOtherKinds: a body of one kind is none of another one.
func TestGetOfOtherKinds(t *testing.T) {
	for _, w := range written() {
		for kind := range 256 {
			if kind != w.l.Kind {
				refused(t, "another kind", sealed(byte(kind), w.body), api.ErrForm)
			}
		}
	}
}

// TestGetOfEachByte: each byte of some bodies is each byte there is, with the sum set right; with the sum as it was all are refused.
func TestGetOfEachByte(t *testing.T) {
	for _, w := range written() {
		was := sealed(byte(w.l.Kind), w.body)
		for i := range w.body {
			for n := range 256 {
				body := bytes.Clone(w.body)
				body[i] = byte(n)
				asPlain(t, sealed(was[1], body))
				if b := slices.Concat(was[:4], body, was[len(was)-4:]); n != int(w.body[i]) {
					refused(t, "a wrong sum", b, api.ErrSum)
				}
			}
		}
	}
}

// TestGetOfWhatCanNotBe: bytes as Put would have them, of letters that can't be.
func TestGetOfWhatCanNotBe(t *testing.T) {
	mark := func(backend byte) []byte { return []byte{backend, 0, 0, 0, 5} }
	nothing, _ := life.Put(life.Rec{}) // what is known of none
	known, _ := life.Put(rec(1))
	update := func(backend byte, size int, b []byte) []byte {
		return append([]byte{backend, byte(size >> 8), byte(size)}, b...)
	}
	yes := written()[6].body
	told := func(change func(b []byte)) []byte {
		b := bytes.Clone(yes)
		change(b)
		return b
	}
	for _, c := range []struct {
		name string
		kind byte
		body []byte
	}{
		{"no updates", 2, []byte{0}}, {"no marks", 3, []byte{0}},
		{"marks that fall", 3, slices.Concat([]byte{2}, mark(4), mark(3))},
		{"marks of one backend", 3, slices.Concat([]byte{2}, mark(4), mark(4))},
		{"a mark of none", 3, slices.Concat([]byte{1}, mark(32))},
		{"many marks", 3, append([]byte{255}, bytes.Repeat(mark(0), 255)...)},
		{"updates that fall", 2, slices.Concat([]byte{2}, update(4, len(known), known), update(3, len(known), known))},
		{"updates of one backend", 2, slices.Concat([]byte{2}, update(4, len(known), known), update(4, len(known), known))},
		{"an update of none", 2, slices.Concat([]byte{1}, update(32, len(known), known))},
		{"what is not known", 2, slices.Concat([]byte{1}, update(4, len(nothing), nothing))},
		{"no bytes", 2, slices.Concat([]byte{1}, update(4, 0, nil))},
		{"bytes behind what is known", 2, slices.Concat([]byte{1}, update(4, len(known)+1, append(bytes.Clone(known), 0)))},
		{"fewer bytes than what is known", 2, slices.Concat([]byte{1}, update(4, len(known)-1, known))},
		{"more bytes than there are", 2, slices.Concat([]byte{1}, update(4, 65535, known))},
		{"a message that is none", 1, []byte{0, 0, 0, 0, 0, 0, 0, 0, 0, 0, 0}},
		{"seven news", 1, append([]byte{1, 0, 1, 0, 0, 0, 0, 0, 1, 0, 7}, make([]byte, 56)...)},
		{"an address of another kind", 5, told(func(b []byte) { b[14] = 5 })},
		{"an address of kind 0", 5, told(func(b []byte) { b[14] = 0 })},
		{"a fifth byte of four", 5, told(func(b []byte) { b[19] = 1 })},
		{"NoOne of a backend", 5, told(func(b []byte) { b[6] = 1 })},
		{"NoOne of six", 5, append([]byte{0, 0, 0, 0, 0, 1, 1, 0, 0, 0, 0, 0, 0, 0, 6}, make([]byte, 22)...)},
		{"NoRoom of address 0", 5, append([]byte{0, 0, 0, 0, 0, 1, 2, 0, 0, 0, 0, 0, 0, 0, 0}, make([]byte, 22)...)},
		{"Flags of UDP", 4, append(bytes.Clone(written()[5].body[:44]), 2)},
	} {
		refused(t, c.name, sealed(c.kind, c.body), api.ErrForm)
	}
}

// TestTurned is P17.3: some bits within 32 in a row, ahead of the sum, are turned; bits are in a row as they go into the sum, a byte's lowest one first.
func TestTurned(t *testing.T) {
	rnd := rand.New(rand.NewSource(2))
	for _, w := range written() {
		was := sealed(byte(w.l.Kind), w.body)
		bits := 8 * (len(was) - 4)
		turn := func(first int, row uint32) {
			b := bytes.Clone(was)
			for i := range 32 {
				if at := first + i; at < bits && row>>i&1 == 1 {
					b[at/8] ^= 1 << (at % 8)
				}
			}
			if l, e := letter.Get(b); e == api.OK || !alike(l, letter.Letter{}) {
				t.Fatalf("%x turned at %d by %x: Get(%x) = %+v, %d", was, first, row, b, l, e)
			}
		}
		for first := range bits {
			turn(first, 1)
			turn(first, 3)
			turn(first, 1<<31|1)
			turn(first, 1<<32-1)
			for range 20 {
				turn(first, rnd.Uint32()|1)
			}
		}
	}
}

// TestMemory: what is handed in is neither changed nor kept, what is answered is the caller's.
func TestMemory(t *testing.T) {
	for kind, l := range simple()[1:] {
		was := but(l, func(*letter.Letter) {})
		b, _ := letter.Put(l)
		again, _ := letter.Put(l)
		if !alike(l, was) || !bytes.Equal(b, again) {
			t.Fatalf("the kind %d: Put changes %+v, or tells %x and %x", kind+1, l, b, again)
		}
		clear(again[:cap(again)])
		one, _ := letter.Get(b)
		two, _ := letter.Get(b)
		clear(b)
		spoil(&one)
		if !alike(two, was) {
			t.Errorf("the kind %d: %+v, want %+v", kind+1, two, was)
		}
	}
}

// spoil writes into all lists of a letter, and behind them.
func spoil(l *letter.Letter) {
	clear(l.Swim.News[:cap(l.Swim.News)])
	clear(l.Marks[:cap(l.Marks)])
	for i := range l.Updates {
		v := l.Updates[i].Rec.Votes
		clear(v[:cap(v)])
	}
	clear(l.Updates[:cap(l.Updates)])
}

// TestVotesOfOneAnswer: no two lists of one answer have the same memory.
func TestVotesOfOneAnswer(t *testing.T) {
	b, _ := letter.Put(updates(pool.Update{Backend: 1, Rec: rec(3)}, pool.Update{Backend: 2, Rec: rec(3)}))
	l, e := letter.Get(b)
	if e != api.OK || len(l.Updates) != 2 {
		t.Fatalf("Get = %+v, %d", l, e)
	}
	v := l.Updates[0].Rec.Votes
	v = append(v, life.Vote{Stamp: 9})
	clear(v)
	clear(l.Updates[0].Rec.Votes)
	if !life.Same(l.Updates[1].Rec, rec(3)) {
		t.Errorf("the second one has %v", l.Updates[1].Rec)
	}
}

// TestGetOfNoise: bytes by chance end with what the plain one has.
func TestGetOfNoise(t *testing.T) {
	rnd := rand.New(rand.NewSource(3))
	for range 20000 {
		b := make([]byte, rnd.Intn(80))
		rnd.Read(b)
		asPlain(t, b)
		for i := range b {
			b[i] >>= rnd.Intn(8)
		}
		asPlain(t, sealed(byte(rnd.Intn(7)), b))
	}
}

// FuzzGet: any bytes end with what the plain one has.
func FuzzGet(f *testing.F) {
	for _, w := range written() {
		f.Add(sealed(byte(w.l.Kind), w.body))
	}
	f.Fuzz(func(t *testing.T, b []byte) { asPlain(t, b) })
}

// FuzzBody: so does any body of any kind.
func FuzzBody(f *testing.F) {
	for _, w := range written() {
		f.Add(byte(w.l.Kind), w.body)
	}
	f.Fuzz(func(t *testing.T, kind byte, body []byte) { asPlain(t, sealed(kind, body)) })
}

// FuzzLetter: letters by chance, of which some can't be, are written and read as they are, or refused.
func FuzzLetter(f *testing.F) {
	f.Add(int64(1), 10)
	f.Add(int64(2), 0)
	f.Fuzz(func(t *testing.T, seed int64, wrong int) {
		l := chance{rand.New(rand.NewSource(seed)), wrong}.letter()
		if plainRight(l) {
			asWritten(t, l)
		} else if b, e := letter.Put(l); len(b) != 0 || e != api.ErrArg || letter.Right(l) {
			t.Fatalf("Put(%+v) = %x, %d", l, b, e)
		}
	})
}
